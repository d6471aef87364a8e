/- Records are sent; votes are asked for. -/
import Derived.Test.YtklkglbimjajnaaBehind
import Derived.Test.YtklkglbimjajnaaSay
namespace Go.Proofs.Ytklkglbimjajnaa.sendr
open Go.ChangeShapes Go.WideShapes Go.ChangeAt Go.RowKit
open Go.Proofs.Ytklkglbimjajnaa.Raft Go.Proofs.Ytklkglbimjajnaa.mem Go.Proofs.Ytklkglbimjajnaa.grp Go.Proofs.Ytklkglbimjajnaa.look Go.Proofs.Ytklkglbimjajnaa.ndw Go.Proofs.Ytklkglbimjajnaa.grant Go.Proofs.Ytklkglbimjajnaa.stand Go.Proofs.Ytklkglbimjajnaa.rows2 Go.Proofs.Ytklkglbimjajnaa.clone Go.Proofs.Ytklkglbimjajnaa.behind Go.Proofs.Ytklkglbimjajnaa.post Go.Proofs.Ytklkglbimjajnaa.postb Go.Proofs.Ytklkglbimjajnaa.say
set_option linter.unusedVariables false

/-- More is frozen: the group stands. -/
theorem G.frozen {w w' : World} {M M' : Fz} {O : Lb} {d : Nat} {nb : List Nat} {c : Cl} (h : G w M O d nb c) (hb : Below w.heap.size w w') (hl : Le M M') (hI : In M' w') (hn : ∀ b, M' b ≠ none → M b ≠ none ∨ w.heap.size ≤ b) : G w' M' O d nb c ∧ Aft (fun _ => False) M O w M' O w' := by
  have a : Aft (fun _ => False) M O w M' O w' := ((Aft.refl _ h.sta).below hb).freezes hl hI hn (fun b l hbl => by
    cases e : M' b with
    | none => rfl
    | some o =>
      rcases hn b (by rw [e]; simp) with h1 | h1
      · exact absurd (h.sta.ok b l hbl).1 h1
      · have := (h.sta.ok b l hbl).2; omega)
  exact ⟨h.keep a, a⟩

set_option maxRecDepth 20000 in
set_option maxHeartbeats 4000000 in
theorem sendRecords_any (w : World) (M : Fz) (O : Lb) (d : Nat) (nb : List Nat) (c : Cl) (h : G w M O d nb c) (k b : Nat) (hb : nb[k]? = some b) (to f : Nat) (hf : (c.at k).next[to]? = some f) (h1 : 1 ≤ f) (h2 : f ≤ (c.at k).log.length + 1) (hl : (c.at k).log.length ≤ 1000) (ht7 : to ≤ 7) :
    Calls Try.prog 134 #[.pointer (some ⟨d, 0, none⟩), .pointer (some ⟨b, 0, none⟩), .int .i64 to] w fun r w' => r = .returned (.tuple #[]) ∧ Did M O w d nb (c.records k to) w' := by
  have st := h.sta
  have hnode := h.at hb
  obtain ⟨us, lv, vv, nv, mv, hn⟩ := id hnode
  obtain ⟨⟨_, _, _, _, _, c5, _, _, c8, _⟩, _⟩ := Nd.cs hn
  have htl : to < (c.at k).next.length := (List.getElem?_eq_some_iff.1 hf).1
  obtain ⟨g, cap, rfl, hcap1, hcap2, hcells, _⟩ := own_at hn.next (by omega)
  have cg := hcells to (.int .i64 f) (by rw [List.getElem?_map, hf]; rfl)
  unfold maxLen at hcap2
  have hrec : c.records k to = c.send ⟨3, k, to, (c.at k).term, f - 1, termAt (c.at k).log (f - 1), (c.at k).commit, false, (c.at k).log.drop (f - 1)⟩ := by
    unfold Cl.records
    have e : (c.at k).next.getD to 0 = f := by rw [List.getD_eq_getElem?_getD, hf]; rfl
    simp only [e]
  rw [hrec]
  obtain ⟨e, rfl⟩ : ∃ e, f = e + 1 := ⟨f - 1, by omega⟩
  rw [Nat.add_sub_cancel]
  have HT : Hid (∀ wx, Below w.heap.size w wx → Calls Try.prog 148 #[.pointer (some ⟨b, 0, none⟩), .int .i64 e] wx fun r w' => r = .returned (.int .i64 (termAt (c.at k).log e : Nat)) ∧ w' = wx) := fun wx hx => term_any wx M O b k _ (Nod.below st hnode hx) e (by omega)
  have HB : Hid (∀ wx, Below w.heap.size w wx → Calls Try.prog 149 #[.pointer (some ⟨b, 0, none⟩), .int .i64 e] wx fun r w' => ∃ (o : Option Addr) (n lc : Nat), r = .returned (.slice o n lc) ∧ Below w.heap.size w w' ∧ w'.cell? ⟨b, 5, none⟩ = some (.int .i64 (c.at k).commit) ∧ Hid (∃ M', Le M M' ∧ In M' w' ∧ RecsM M' (.slice o n lc) ((c.at k).log.drop e) ∧ ∀ b, M' b ≠ none → M b ≠ none ∨ w.heap.size ≤ b)) := fun wx hx => by
    refine (behind_any wx M O b k _ (st.below hx) (Nod.below st hnode hx) e (by omega) hl).mono ?_
    rintro r w' ⟨M', o, n, lc, rfl, q1, q2, q3, q4, q5⟩
    have hbw : Below w.heap.size w w' := hx.trans (q4.mono hx.size)
    obtain ⟨_, _, _, _, _, hn'⟩ := Nod.below st hnode hbw
    exact ⟨o, n, lc, rfl, hbw, (Nd.cs hn').1.2.2.2.2.2.1, M', q1, q2, q3, fun b' hb' => (q5 b' hb').imp id (fun h => Nat.le_trans hx.size h)⟩
  have HS : Hid (∀ wx (o : Option Addr) (n lc : Nat), Below w.heap.size w wx → Hid (∃ w0 M', Below w0.heap.size w0 wx ∧ Below w.heap.size w w0 ∧ Le M M' ∧ In M' w0 ∧ RecsM M' (.slice o n lc) ((c.at k).log.drop e) ∧ ∀ b, M' b ≠ none → M b ≠ none ∨ w.heap.size ≤ b) → Calls Try.prog 144 #[.pointer (some ⟨d, 0, none⟩), .pointer (some ⟨b, 0, none⟩), .int .i64 to, .agg #[.int .i64 3, .int .i64 0, .int .i64 0, .int .i64 0, .int .i64 e, .int .i64 (termAt (c.at k).log e : Nat), .int .i64 (c.at k).commit, .bool false, .slice o n lc]] wx fun r w' => r = .returned (.tuple #[]) ∧ Did M O w d nb (c.send ⟨3, k, to, (c.at k).term, e, termAt (c.at k).log e, (c.at k).commit, false, (c.at k).log.drop e⟩) w') := fun wx o n lc hx H => by
    obtain ⟨w0, M', q0, _, q1, q2, q3, q5⟩ := H.out
    obtain ⟨hg, a⟩ := G.frozen h hx q1 (q2.below q0) q5
    refine (say_any wx M' O d nb c hg k b hb to 3 e _ _ false _ o n lc q3).mono ?_
    rintro r w' ⟨rfl, hd⟩
    exact ⟨rfl, Did.trans (a.mono (fun _ h => h.elim)) hd⟩
  have htI : (to : Int) < (c.at k).next.length := by omega
  have heI : (e : Int) ≤ 1001 := by omega
  generalize (c.at k).commit = C at *
  generalize termAt (c.at k).log e = T at *
  generalize (c.at k).next.length = NL at *
  clear hn hnode hcells hrec st h hf hl h2
  have hee : ((e + 1 : Nat) : Int) = (e : Int) + 1 := by omega
  rw [hee] at cg
  go_enter Try.func134, Try.ntmps134
  go_wp2
  go_region_law (first
    | (go_simp; go_at_call 148; refine (HT.out _ (by first | exact (Below.refl _ _).drew | exact Below.refl _ _)).mono ?_; rintro rr w1 ⟨rfl, hw1⟩; have hw2 := hw1.symm; subst hw2; clear hw1)
    | (go_simp; go_at_call 149; refine (HB.out _ (by first | exact (Below.refl _ _).drew | exact Below.refl _ _)).mono ?_; rintro rr w2 ⟨o, n, lc, rfl, hb2, hc2, H2⟩; have HB2 := hide hb2; clear hb2)
    | (go_simp; go_at_call 144; refine (HS.out _ _ _ _ HB2.out (by obtain ⟨M', q1, q2, q3, q4⟩ := H2.out; exact ⟨_, M', Below.refl _ _, HB2.out, q1, q2, q3, q4⟩)).mono ?_; rintro rr w3 ⟨rfl, hd3⟩; have HD3 := hide hd3; clear hd3))
  all_goals
    go_wp2
    go_end0
    exact ⟨rfl, HD3.out⟩

set_option maxRecDepth 20000 in
set_option maxHeartbeats 4000000 in
theorem askForVote_any (w : World) (M : Fz) (O : Lb) (d : Nat) (nb : List Nat) (c : Cl) (h : G w M O d nb c) (k b : Nat) (hb : nb[k]? = some b) (to : Nat) (ht7 : to ≤ 7) :
    Calls Try.prog 136 #[.pointer (some ⟨d, 0, none⟩), .pointer (some ⟨b, 0, none⟩), .int .i64 to] w fun r w' => r = .returned (.tuple #[]) ∧ Did M O w d nb (c.send ⟨1, k, to, (c.at k).term, (c.at k).log.length, lastTerm (c.at k).log, 0, false, []⟩) w' := by
  have st := h.sta
  have hnode := h.at hb
  rw [lastTerm_at]
  have HL : Hid (∀ q, Calls Try.prog 138 #[.pointer (some ⟨b, 0, none⟩)] (w.drewN q) fun r w' => r = .returned (.int .i64 ((c.at k).log.length : Nat)) ∧ w' = w.drewN q) := fun q => last_any _ M O b k _ (Nod.below st hnode (drewN_below w q))
  have HT : Hid (∀ q, Calls Try.prog 148 #[.pointer (some ⟨b, 0, none⟩), .int .i64 (c.at k).log.length] (w.drewN q) fun r w' => r = .returned (.int .i64 (termAt (c.at k).log (c.at k).log.length : Nat)) ∧ w' = w.drewN q) := fun q => term_any _ M O b k _ (Nod.below st hnode (drewN_below w q)) _ (Nat.le_refl _)
  have HS : Hid (∀ q, Calls Try.prog 144 #[.pointer (some ⟨d, 0, none⟩), .pointer (some ⟨b, 0, none⟩), .int .i64 to, .agg #[.int .i64 1, .int .i64 0, .int .i64 0, .int .i64 0, .int .i64 (c.at k).log.length, .int .i64 (termAt (c.at k).log (c.at k).log.length : Nat), .int .i64 0, .bool false, .slice none 0 0]] (w.drewN q) fun r w' => r = .returned (.tuple #[]) ∧ Did M O w d nb (c.send ⟨1, k, to, (c.at k).term, (c.at k).log.length, termAt (c.at k).log (c.at k).log.length, 0, false, []⟩) w') := fun q => by
    refine (say_any _ M O d nb c (h.below (drewN_below w q)) k b hb to 1 _ _ 0 false [] none 0 0 (RecsM.nil M)).mono ?_
    rintro r w' ⟨rfl, hd⟩
    exact ⟨rfl, Did.from st (drewN_below w q) hd⟩
  generalize termAt (c.at k).log (c.at k).log.length = T at *
  generalize (c.at k).log.length = L at *
  clear hnode st h
  go_enter Try.func136, Try.ntmps136
  go_wp2
  go_region_law (first
    | (go_simp; go_at_call 138; refine (HL.out 1).mono ?_; rintro rr w1 ⟨rfl, hw1⟩; have hw2 := hw1.symm; subst hw2; clear hw1)
    | (go_simp; go_at_call 148; refine (HT.out 1).mono ?_; rintro rr w1 ⟨rfl, hw1⟩; have hw2 := hw1.symm; subst hw2; clear hw1)
    | (go_simp; go_at_call 144; refine (HS.out 1).mono ?_; rintro rr w3 ⟨rfl, hd3⟩; have HD3 := hide hd3; clear hd3))
  all_goals
    go_wp2
    go_end0
    exact ⟨rfl, HD3.out⟩
end Go.Proofs.Ytklkglbimjajnaa.sendr

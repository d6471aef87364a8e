/- A record is added to a log. -/
import Derived.Test.YtklkglbimjajnaaLogs
namespace Go.Proofs.Ytklkglbimjajnaa.add
open Go.ChangeShapes Go.WideShapes Go.ChangeAt Go.RowKit
open Go.Proofs.Ytklkglbimjajnaa.Raft Go.Proofs.Ytklkglbimjajnaa.mem Go.Proofs.Ytklkglbimjajnaa.grp Go.Proofs.Ytklkglbimjajnaa.look Go.Proofs.Ytklkglbimjajnaa.ndw Go.Proofs.Ytklkglbimjajnaa.grant Go.Proofs.Ytklkglbimjajnaa.stand Go.Proofs.Ytklkglbimjajnaa.rows2 Go.Proofs.Ytklkglbimjajnaa.clone Go.Proofs.Ytklkglbimjajnaa.lookc Go.Proofs.Ytklkglbimjajnaa.logs
set_option linter.unusedVariables false

set_option maxRecDepth 20000 in
set_option maxHeartbeats 2000000 in
theorem add_any (w : World) (M : Fz) (O : Lb) (b k : Nat) (p : Peer) (st : Sta M O w) (h : Nod w M O b k p) (xs : List Int) (o : Option Addr) (n lc : Nat) (hd : BytesM M (.slice o n lc) xs) (hx : xs.length ≤ 1000) (hl : p.log.length ≤ 1000) :
    Calls Try.prog 139 #[.pointer (some ⟨b, 0, none⟩), .slice o n lc] w fun r w' => r = .returned (.tuple #[]) ∧ NDid M O w b k { p with log := p.log ++ [⟨p.term, p.log.length + 1, xs⟩] } w' := by
  have hnode := h
  obtain ⟨us, lv, vv, nv, mv, h⟩ := h
  have hus : us.length = p.log.length := by rw [← h.recs]; simp
  obtain ⟨co, cc, ecv⟩ := own_slice h.log
  subst ecv
  have hcap := (own_cap h.log).2.2
  unfold maxLen at hcap
  obtain ⟨⟨c0, _, c2, _⟩, ⟨_, _, f2, _⟩⟩ := Nd.cs h
  obtain ⟨i0, hii, hz0, hz1, hz2⟩ := info_parts info35
  have HI3 : Hid (Try.prog.info? 38 = some i0 ∧ i0.zero = some (.agg #[.int .i64 0, .int .i64 0, .slice none 0 0]) ∧ i0.size = 3 ∧ i0.bytes = 40) := ⟨hii, hz0, hz1, hz2⟩
  obtain ⟨OB, hOB⟩ : ∃ OB : Obj, OB = .cells #[.int .i64 p.term, .int .i64 ((p.log.length : Int) + 1), .slice o n lc] 38 := ⟨_, rfl⟩
  have hbl := (st.ok b _ h.own).2
  have HRow : Hid (((w.alloc OB).drew).ownsRow 0 38 3 (.slice co us.length cc) us.length (us.flatMap recCells)) := row_kept h.log fun g' hg' => (more (Below.refl _ _) OB).block g' (row_lt h.log hg').2
  have HNw : Hid (∀ (j : Nat) (u : Value), ([.int .i64 p.term, .int .i64 ((p.log.length : Int) + 1), .slice o n lc] : List Value)[j]? = some u → ((w.alloc OB).drew).cell? ((⟨w.heap.size, 0, none⟩ : Addr).add j) = some u) := fun j u hu => by
    rw [addr_add, Nat.zero_add]
    have h7 : (w.alloc OB).cell? ⟨w.heap.size, j, none⟩ = some u := by rw [hOB]; exact cell_of (heap_alloc_new w _) (by simpa using hu)
    exact h7
  have HD : Hid (∀ (w2 : World), ((w.alloc OB).drew).grownBy w2 (Value.slice co us.length cc).ownBlock → w2.heap[b]? = w.heap[b]?) := fun w2 hg => (hg.block b (by have e7 : ((w.alloc OB).drew).heap.size = (w.alloc OB).heap.size := rfl; have := (more (Below.refl _ w) OB).size; omega) (fun e => h.ne.1 e.symm)).trans ((more (Below.refl _ _) OB).block b hbl)
  have HDb := hide h.blk
  have HFin : Hid (∀ (w2 : World) (g2 n2 cap2 : Nat), ((w.alloc OB).drew).grownBy w2 (Value.slice co us.length cc).ownBlock → w2.ownsRow 0 38 3 (.slice (some ⟨g2, 0, none⟩) n2 cap2) (us.length + 1) (us.flatMap recCells ++ [.int .i64 p.term, .int .i64 ((p.log.length : Int) + 1), .slice o n lc]) → ((Value.slice co us.length cc).ownBlock = some g2 ∨ g2 = ((w.alloc OB).drew).heap.size) → NDid M O w b k { p with log := p.log ++ [⟨p.term, p.log.length + 1, xs⟩] } (w2.setCell ⟨b, 2, none⟩ (.slice (some ⟨g2, 0, none⟩) n2 cap2))) := fun w2 g2 n2 cap2 p1 p2 p3 =>
    NDid.push st h (more (Below.refl _ _) OB).drew (y := ⟨⟨p.term, p.log.length + 1, xs⟩, .slice o n lc⟩) ⟨hd, hx⟩ p2 p1 p3
  have HL : Hid (∀ wx, Below w.heap.size w wx → Calls Try.prog 138 #[.pointer (some ⟨b, 0, none⟩)] wx fun r w' => r = .returned (.int .i64 (p.log.length : Nat)) ∧ w' = wx) := fun wx hb => last_any wx M O b k p (Nod.below st hnode hb)
  have hlI : (p.log.length : Int) ≤ 1000 := by omega
  rw [hOB] at HRow HNw HD HFin
  rw [hus] at c2 HRow HD HFin
  have hLl : p.log.length ≤ 1000 := hl
  generalize p.log.length = L at *
  have hwr : IntKind.i64.wrap ((L : Int) + 1) = (L : Int) + 1 := by rw [IntKind.wrap_i64]; omega
  clear hii hz0 hz1 hz2 h hnode st hus hOB hd
  go_enter Try.func139, Try.ntmps139
  go_wp2
  go_region_law (first
    | (go_simp; go_at_call 138; refine (HL.out _ (by first | exact (Below.refl _ _).drew | exact Below.refl _ _ | exact (more (Below.refl _ _) _).drew)).mono ?_; rintro rr w1 ⟨rfl, hw1⟩; have hw2 := hw1.symm; subst hw2; clear hw1)
    | (refine step_append_lies _ rfl _ _ 28 rfl 0 38 i0 (.agg #[.int .i64 0, .int .i64 0, .slice none 0 0]) 3 40 Try.underlying28 HI3.out.1 HI3.out.2.1 HI3.out.2.2.1 HI3.out.2.2.2 rfl (by decide) _ L (us.flatMap recCells) rfl HRow.out ⟨w.heap.size, 0, none⟩ 1 1 [.int .i64 p.term, .int .i64 ((L : Int) + 1), .slice o n lc] rfl rfl HNw.out (fun u' hu' => by simp only [List.mem_cons, List.not_mem_nil, or_false] at hu'; rcases hu' with rfl | rfl | rfl <;> rfl) (by decide) (by unfold maxLen; omega) (by omega) (Nat.zero_le _) _ rfl ?_
       intro g2 cap2 w2 O2 G2 hg2 hgl2
       have HN2 := hide (HFin.out w2 g2 _ cap2 G2 O2 hg2)
       have k2 := (HD.out w2 G2).trans HDb.out
       have t0 := cell_of (i := 2) k2 (v := .slice co _ cc) rfl
       have t1 := frozen_of k2 2
       clear O2 G2 hg2 hgl2 k2))
  all_goals
    go_wp2
    go_end0
    exact ⟨rfl, HN2.out⟩
end Go.Proofs.Ytklkglbimjajnaa.add

/- A peer leads. -/
import Derived.Test.YtklkglbimjajnaaRows2
import Derived.Test.YtklkglbimjajnaaRep
namespace Go.Proofs.Ytklkglbimjajnaa.lead
open Go.ChangeShapes Go.WideShapes Go.ChangeAt Go.RowKit
open Go.Proofs.Ytklkglbimjajnaa.Raft Go.Proofs.Ytklkglbimjajnaa.mem Go.Proofs.Ytklkglbimjajnaa.grp Go.Proofs.Ytklkglbimjajnaa.look Go.Proofs.Ytklkglbimjajnaa.ndw Go.Proofs.Ytklkglbimjajnaa.grant Go.Proofs.Ytklkglbimjajnaa.stand Go.Proofs.Ytklkglbimjajnaa.rows2 Go.Proofs.Ytklkglbimjajnaa.rep
set_option linter.unusedVariables false

def leadM (p : Peer) (n : Nat) : Peer := { p with role := 2, votes := [], next := List.replicate n (p.log.length + 1), mat := List.replicate n 0 }
def leadP (p : Peer) (k n : Nat) : Peer := { p with role := 2, votes := [], next := List.replicate n (p.log.length + 1), mat := (List.replicate n 0).set k p.log.length }

/-- The lists of a leader are made and stored. -/
theorem lead_mid {w W0 W1 w3 W4 w5 : World} {M : Fz} {O : Lb} {b k n : Nat} {p : Peer} {us : List RV} {lv vv nv mv : Value} (st : Sta M O w) (h : Nd w M O b k p us lv vv nv mv)
    (hW0 : W0 = sets w b [(6, .int .i64 2), (7, .slice none 0 0)]) (hW1 : Below W0.heap.size W0 W1) (h13 : Below W1.heap.size W1 w3) (hO3 : w3.ownsRow W1.heap.size 3 1 (.slice (some ⟨W1.heap.size, 0, none⟩) n n) n (List.replicate n (.int .i64 ((p.log.length : Int) + 1))))
    (hW4 : W4 = w3.setCell ⟨b, 8, none⟩ (.slice (some ⟨W1.heap.size, 0, none⟩) n n)) (hO5 : w5.ownsRow W4.heap.size 3 1 (.slice (some ⟨W4.heap.size, 0, none⟩) n n) n (List.replicate n (.int .i64 0))) (hG : W4.grownBy w5 none) :
    ∃ O', Aft (· = 3 + k) M O w M O' (w5.setCell ⟨b, 9, none⟩ (.slice (some ⟨W4.heap.size, 0, none⟩) n n)) ∧ Nd (w5.setCell ⟨b, 9, none⟩ (.slice (some ⟨W4.heap.size, 0, none⟩) n n)) M O' b k (leadM p n) us lv (.slice none 0 0) (.slice (some ⟨W1.heap.size, 0, none⟩) n n) (.slice (some ⟨W4.heap.size, 0, none⟩) n n) := by
  have a0 : Aft (· = 3 + k) M O w M O W0 := by rw [hW0]; exact sets_aft (S := (· = 3 + k)) h.own rfl _ (Aft.refl _ st)
  have a1 := a0.below hW1
  have a3 := a1.below h13
  have hsz := a1.size
  have hg1 := row_lt hO3 (g := W1.heap.size) rfl
  have a4 := a3.label (b := W1.heap.size) (l := 3 + k) hsz hg1.2 (st.inn.fresh hsz) rfl
  have hbl := (st.ok b _ h.own).2
  have hb1 : lab O W1.heap.size (3 + k) b = some (3 + k) := by rw [lab_ne O _ (by omega)]; exact h.own
  have a5 := a4.set hb1 rfl 8 (.slice (some ⟨W1.heap.size, 0, none⟩) n n)
  rw [← hW4] at a5
  have a6 := a5.grown hG (fun _ h => by cases h)
  have hsz4 := a5.size
  have hg2 := row_lt hO5 (g := W4.heap.size) rfl
  have a7 := a6.label (b := W4.heap.size) (l := 3 + k) hsz4 hg2.2 (st.inn.fresh hsz4) rfl
  have hz4 : W4.heap.size = w3.heap.size := by rw [hW4]; simp
  have hb2 : lab (lab O W1.heap.size (3 + k)) W4.heap.size (3 + k) b = some (3 + k) := by rw [lab_ne _ _ (by omega)]; exact hb1
  have a8 := a7.set hb2 rfl 9 (.slice (some ⟨W4.heap.size, 0, none⟩) n n)
  refine ⟨_, a8, ?_⟩
  obtain ⟨n1, n2, n3, n4⟩ := h.ne
  have h1b : w3.heap[b]? = some (.cells #[.int .i64 p.term, .int .i64 p.vote, lv, .int .i64 k, .bool p.up, .int .i64 p.commit, .int .i64 2, .slice none 0 0, nv, mv] 110 (0, 0)) := by
    rw [h13.block b (by omega), hW1.block b (by have := a0.size; omega), hW0]
    exact sets_at _ h.blk
  have h5b : w5.heap[b]? = some (.cells #[.int .i64 p.term, .int .i64 p.vote, lv, .int .i64 k, .bool p.up, .int .i64 p.commit, .int .i64 2, .slice none 0 0, .slice (some ⟨W1.heap.size, 0, none⟩) n n, mv] 110 (0, 0)) := by
    rw [hG.block b (by omega) (by simp), hW4]
    exact set_at h1b 8 _ rfl
  have hbk : ∀ x, x < w.heap.size → x ≠ b → (w5.setCell ⟨b, 9, none⟩ (.slice (some ⟨W4.heap.size, 0, none⟩) n n)).heap[x]? = w.heap[x]? := fun x hx hxb => by
    rw [setv_keep x hxb, hG.block x (by omega) (by simp), hW4, setv_keep x hxb, h13.block x (by omega), hW1.block x (by have := a0.size; omega), hW0]
    exact sets_ne _ w hxb
  have r3 : (w5.setCell ⟨b, 9, none⟩ (.slice (some ⟨W4.heap.size, 0, none⟩) n n)).ownsRow 0 3 1 (.slice (some ⟨W1.heap.size, 0, none⟩) n n) n (List.replicate n (.int .i64 ((p.log.length : Int) + 1))) := own_base (row_kept hO3 fun g hg => by
    simp only [Value.ownBlock, Option.some.injEq] at hg
    subst hg
    rw [setv_keep _ (by omega), hG.block _ (by omega) (by simp), hW4, setv_keep _ (by omega)])
  have r5 : (w5.setCell ⟨b, 9, none⟩ (.slice (some ⟨W4.heap.size, 0, none⟩) n n)).ownsRow 0 3 1 (.slice (some ⟨W4.heap.size, 0, none⟩) n n) n (List.replicate n (.int .i64 0)) := own_base (row_kept hO5 fun g hg => by
    simp only [Value.ownBlock, Option.some.injEq] at hg
    subst hg
    rw [setv_keep _ (by omega)])
  refine ⟨?_, hb2, row_kept h.log fun g hg => hbk g (row_lt h.log hg).2 (fun e => n1 (e ▸ hg)), h.recs, h.data, World.ownsRow_nil _ 0 4 1, ?_, ?_, ?_, ?_⟩
  · exact set_at h5b 9 _ rfl
  · simpa [leadM] using r3
  · simpa [leadM] using r5
  · intro v hv g hg
    simp only [List.mem_cons, List.not_mem_nil, or_false] at hv
    rcases hv with rfl | rfl | rfl | rfl
    · have hlt := (row_lt h.log hg).2
      rw [lab_ne _ _ (by omega), lab_ne _ _ (by omega)]; exact h.lab _ (by simp) g hg
    · simp [Value.ownBlock] at hg
    · simp only [Value.ownBlock, Option.some.injEq] at hg
      subst hg
      rw [lab_ne _ _ (by omega)]; exact lab_at _ _ _
    · simp only [Value.ownBlock, Option.some.injEq] at hg
      subst hg; exact lab_at _ _ _
  · intro g hg
    intro e
    simp only [Value.ownBlock, Option.some.injEq] at hg e
    omega

set_option maxRecDepth 20000 in
set_option maxHeartbeats 4000000 in
theorem lead_any (w : World) (M : Fz) (O : Lb) (b k n : Nat) (p : Peer) (st : Sta M O w) (h : Nod w M O b k p) (hk : k < n) (hn7 : n ≤ 7) (hl : p.log.length ≤ 1000) :
    Calls Try.prog 153 #[.pointer (some ⟨b, 0, none⟩), .int .i64 n] w fun r w' => r = .returned (.tuple #[]) ∧ NDid M O w b k (leadP p k n) w' := by
  obtain ⟨us, lv, vv, nv, mv, h⟩ := h
  obtain ⟨⟨c0, c1, c2, c3, c4, c5, c6, c7, c8, c9⟩, ⟨f0, f1, f2, f3, f4, f5, f6, f7, f8, f9⟩⟩ := Nd.cs h
  obtain ⟨i0, hi, hz0, hz1, hz2⟩ := info_parts info3
  have HI : Hid (Try.prog.info? 3 = some i0 ∧ i0.zero = some (.int .i64 0) ∧ i0.size = 1 ∧ i0.bytes = 8) := ⟨hi, hz0, hz1, hz2⟩
  obtain ⟨W0, hW0⟩ : ∃ W0, ((w.setCell ⟨b, 6, none⟩ (.int .i64 2)).setCell ⟨b, 7, none⟩ (.slice none 0 0)) = W0 := ⟨_, rfl⟩
  have hN0 := NDid.sets st h (Below.refl _ _) [(6, .int .i64 2), (7, .slice none 0 0)] { p with role := 2, votes := [] } (.slice none 0 0) nv mv rfl rfl (.inr ⟨rfl, rfl⟩) (.inl ⟨rfl, rfl⟩) (.inl ⟨rfl, rfl⟩)
  obtain ⟨M0, O0, _, hN1⟩ := hN0
  have HL0 : Hid (Calls Try.prog 138 #[.pointer (some ⟨b, 0, none⟩)] W0 fun r w' => r = .returned (.int .i64 (p.log.length : Nat)) ∧ w' = W0) := by
    have := last_any _ M0 O0 b k _ hN1
    rw [show sets w b [(6, .int .i64 2), (7, .slice none 0 0)] = W0 from hW0] at this
    exact this
  have hW0b : W0.heap[b]? = some (.cells #[.int .i64 p.term, .int .i64 p.vote, lv, .int .i64 k, .bool p.up, .int .i64 p.commit, .int .i64 2, .slice none 0 0, nv, mv] 110 (0, 0)) := by
    rw [← hW0]
    exact sets_at [(6, .int .i64 2), (7, .slice none 0 0)] h.blk
  have hbl : b < W0.heap.size := (Array.getElem?_eq_some_iff.1 hW0b).1
  obtain ⟨W1, hW1⟩ : ∃ W1, W0.alloc (.cells #[.int .i64 ((p.log.length : Int) + 1)] 3) = W1 := ⟨_, rfl⟩
  have bW1 : Below W0.heap.size W0 W1 := by rw [← hW1]; exact more (Below.refl _ _) _
  have zW1 : W1.heap.size = W0.heap.size + 1 := by rw [← hW1]; simp
  have hcW1 : W1.cell? ⟨W0.heap.size, 0, none⟩ = some (.int .i64 ((p.log.length : Int) + 1)) := by rw [← hW1]; exact cell_of (heap_alloc_new W0 _) rfl
  have HR : Hid (Calls Try.prog 158 #[.slice (some ⟨W0.heap.size, 0, none⟩) 1 1, .int .i64 n] W1 fun r w' => RepE W1 n ((p.log.length : Int) + 1) r w') := rep_any W1 W0.heap.size _ hcW1 n (by omega) hn7
  have HB1 : Hid (∀ w3, Below W1.heap.size W1 w3 → w3.heap[b]? = some (.cells #[.int .i64 p.term, .int .i64 p.vote, lv, .int .i64 k, .bool p.up, .int .i64 p.commit, .int .i64 2, .slice none 0 0, nv, mv] 110 (0, 0))) := fun w3 hb => (hb.block b (by omega)).trans ((bW1.block b hbl).trans hW0b)
  have HM : Hid (∀ w3 W4 w5, Below W1.heap.size W1 w3 → w3.ownsRow W1.heap.size 3 1 (.slice (some ⟨W1.heap.size, 0, none⟩) n n) n (List.replicate n (.int .i64 ((p.log.length : Int) + 1))) → W4 = w3.setCell ⟨b, 8, none⟩ (.slice (some ⟨W1.heap.size, 0, none⟩) n n) → w5.ownsRow W4.heap.size 3 1 (.slice (some ⟨W4.heap.size, 0, none⟩) n n) n (List.replicate n (.int .i64 0)) → W4.grownBy w5 none →
      ∃ O', Aft (· = 3 + k) M O w M O' (w5.setCell ⟨b, 9, none⟩ (.slice (some ⟨W4.heap.size, 0, none⟩) n n)) ∧ Nd (w5.setCell ⟨b, 9, none⟩ (.slice (some ⟨W4.heap.size, 0, none⟩) n n)) M O' b k (leadM p n) us lv (.slice none 0 0) (.slice (some ⟨W1.heap.size, 0, none⟩) n n) (.slice (some ⟨W4.heap.size, 0, none⟩) n n)) :=
    fun w3 W4 w5 q1 q2 q3 q4 q5 => lead_mid st h hW0.symm bW1 q1 q2 q3 q4 q5
  have hkI : (k : Int) < n := by omega
  have hlI : (p.log.length : Int) ≤ 1000 := by omega
  have HLL : Hid (leadP p k n = { leadM p n with mat := (leadM p n).mat.set k p.log.length } ∧ (leadM p n).mat.length = n ∧ (leadM p n).log = p.log) := by refine hide ⟨rfl, ?_, rfl⟩; simp [leadM]
  have HZ : Hid (W1.heap.size = W0.heap.size + 1 ∧ b < W0.heap.size) := ⟨zW1, hbl⟩
  clear hi hz0 hz1 hz2 hW0b h st hbl hN1 bW1 zW1 hcW1 hl
  obtain ⟨L, hLn⟩ : ∃ L, p.log.length = L := ⟨_, rfl⟩
  have HLn := hide hLn
  rw [hLn] at HL0 HR HM hlI HLL hW1
  clear hLn
  go_enter Try.func153, Try.ntmps153
  go_wp2_with (first
    | (go_at_call 138; refine HL0.out.mono ?_; rintro e w' ⟨rfl, hw'⟩; have hw2 := hw'.symm; subst hw2; clear hw')
    | (go_at_call 158; refine HR.out.mono ?_; rintro e w3 ⟨rfl, hrow3, hbel3⟩
       have hb3 := HB1.out w3 hbel3
       have t8 := cell_of (i := 8) hb3 (v := nv) rfl
       have g8 := frozen_of hb3 8
       have HR3 := hide hrow3
       have HBe3 := hide hbel3
       clear hrow3 hbel3 hb3)
    | (at_make
       (
       obtain ⟨W4, hW4⟩ : ∃ W4, w3.setCell ⟨b, 8, none⟩ (.slice (some ⟨W1.heap.size, 0, none⟩) n n) = W4 := ⟨_, rfl⟩
       rw [hW4]
       refine wpList_make_full _ rfl _ _ 31 rfl W4.heap.size 3 i0 (.int .i64 0) 1 Try.underlying31 HI.out.1 HI.out.2.1 HI.out.2.2.1 .i64 .i64 _ _ n rfl rfl rfl rfl (by rw [HI.out.2.2.2]; omega) (by unfold maxLen; omega) (Nat.le_refl _) ?_
       intro w5 hown5 hgrow5
       rw [made_zero] at hown5
       have hb3 := HB1.out w3 HBe3.out
       have hlt4 : b < W4.heap.size := by rw [← hW4]; have := (Array.getElem?_eq_some_iff.1 hb3).1; simpa using this
       have hb4 := set_at hb3 8 (.slice (some ⟨W1.heap.size, 0, none⟩) n n) rfl
       rw [hW4] at hb4
       have hb5 := (hgrow5.block b hlt4 (by simp)).trans hb4
       have t9 := cell_of (i := 9) hb5 (v := mv) rfl
       have g9 := frozen_of hb5 9
       have HM5 := hide (HM.out w3 W4 w5 HBe3.out HR3.out hW4.symm hown5 hgrow5)
       clear hown5 hgrow5 hb3 hb4 hb5 hlt4)))
  obtain ⟨W6, hW6⟩ : ∃ W6, w5.setCell ⟨b, 9, none⟩ (.slice (some ⟨W4.heap.size, 0, none⟩) n n) = W6 := ⟨_, rfl⟩
  obtain ⟨O', ha, hn⟩ := HM5.out
  rw [hW6] at ha hn ⊢
  obtain ⟨⟨_, _, _, u3, _, _, _, _, _, u9⟩, _⟩ := Nd.cs hn
  have hml := HLL.out.2.1
  obtain ⟨g', cap', e', _, _, hc', hf'⟩ := own_at hn.mat (by rw [hml]; omega)
  have eg : g' = W4.heap.size := by simp only [Value.slice.injEq, Option.some.injEq, Addr.mk.injEq] at e'; exact e'.1.1.symm
  subst eg
  have u8 := hc' k (.int .i64 0) (by simp [leadM, hk])
  have uf := hf' k
  have HF : Hid (NDid M O w b k (leadP p k n) (W6.setCell ⟨W4.heap.size, k, none⟩ (.int .i64 L))) := by
    obtain ⟨M9, O9, a9, h9⟩ := NDid.setMat ha.sta hn k L
    rw [HLL.out.1]
    exact ⟨M9, O9, ha.trans a9, h9⟩
  have HL6 : Hid (∀ q, Calls Try.prog 138 #[.pointer (some ⟨b, 0, none⟩)] (W6.drewN q) fun r w' => r = .returned (.int .i64 (L : Nat)) ∧ w' = W6.drewN q) := fun q => by
    have := last_any (W6.drewN q) M O' b k _ (Nod.below ha.sta ⟨us, lv, _, _, _, hn⟩ (drewN_below W6 q))
    rw [HLL.out.2.2, HLn.out] at this
    exact this
  clear hW6 ha hn hc' hf' e' HM5 HM HR3 HBe3 HB1 HR HL0 hW0 hW1 hW4
  generalize W4.heap.size = Z at *
  go_region_law (first | (go_simp; go_at_call 138; refine (HL6.out 1).mono ?_; rintro rr w9 ⟨rfl, hw9⟩; have hw2 := hw9.symm; subst hw2; clear hw9))
  all_goals
    go_wp2
    go_end0
    exact ⟨rfl, HF.out.drew⟩
end Go.Proofs.Ytklkglbimjajnaa.lead

/- The program's recovery goes along the frames: the state of the loop; a record fitted in. -/
import Derived.Test.YtipcdioolafkpaaFitE
import Derived.Test.YtipcdioolafkpaaReadRecord
namespace Go.Proofs.Ytipcdioolafkpaa.goesalong
open Go.ChangeShapes Go.WideShapes Go.ChangeAt Go.RowKit
open Go.Proofs.Ytipcdioolafkpaa.bytes Go.Proofs.Ytipcdioolafkpaa.pile Go.Proofs.Ytipcdioolafkpaa.put Go.Proofs.Ytipcdioolafkpaa.crcs Go.Proofs.Ytipcdioolafkpaa.join Go.Proofs.Ytipcdioolafkpaa.frames Go.Proofs.Ytipcdioolafkpaa.get Go.Proofs.Ytipcdioolafkpaa.dec Go.Proofs.Ytipcdioolafkpaa.take Go.Proofs.Ytipcdioolafkpaa.one Go.Proofs.Ytipcdioolafkpaa.votes Go.Proofs.Ytipcdioolafkpaa.pays Go.Proofs.Ytipcdioolafkpaa.rechelp Go.Proofs.Ytipcdioolafkpaa.recrows Go.Proofs.Ytipcdioolafkpaa.recov Go.Proofs.Ytipcdioolafkpaa.fits Go.Proofs.Ytipcdioolafkpaa.logput Go.Proofs.Ytipcdioolafkpaa.fite Go.Proofs.Ytipcdioolafkpaa.readrec Go.Proofs.Ytipcdioolafkpaa.readrecord
set_option linter.unusedVariables false

theorem grown_below {w w' : World} {B : Nat} (h : Below B w w') (hB : w.heap.size ≤ B) (row : Option Nat) : w.grownBy w' row := ⟨h.os, h.tape, h.output, h.size, fun k hk _ => h.block k (by omega)⟩
/-- The recovery stands at place a of the bytes, with this state. -/
structure RG (w0 w : World) (B rb : Nat) (ao : Option Addr) (cap : Nat) (xs : List Int) (s : St) (good : Nat) (a : Nat) : Prop where
  rv : ∃ lv us, RV w B rb (.slice ao xs.length cap) a s lv us good
  bel : Below rb w0 w
  rd : RdA w (.slice ao xs.length cap) xs
  le : a ≤ xs.length
  len : xs.length ≤ 65536
  size : B ≤ w.heap.size
  hr : rb < B
  wsz : w0.heap.size ≤ rb
  rd0 : RdA w0 (.slice ao xs.length cap) xs
theorem RG.step {w0 w w' : World} {B rb : Nat} {ao : Option Addr} {cap : Nat} {xs : List Int} {s s' : St} {good good' a a' : Nat} (h : RG w0 w B rb ao cap xs s good a) (hrv : ∃ lv us, RV w' B rb (.slice ao xs.length cap) a' s' lv us good') (hb : Below rb w w') (ha : a' ≤ xs.length) : RG w0 w' B rb ao cap xs s' good' a' where
  rv := hrv
  bel := h.bel.trans hb
  rd := h.rd0.below (h.bel.trans hb) h.wsz
  le := ha
  len := h.len
  size := Nat.le_trans h.size hb.size
  hr := h.hr
  wsz := h.wsz
  rd0 := h.rd0
theorem RG.lt {w0 w : World} {B rb : Nat} {ao : Option Addr} {cap : Nat} {xs : List Int} {s : St} {good a : Nat} (h : RG w0 w B rb ao cap xs s good a) : rb < w.heap.size := Nat.lt_of_lt_of_le h.hr h.size
theorem RG.put {w0 w : World} {B rb : Nat} {ao : Option Addr} {cap : Nat} {xs : List Int} {s : St} {good a : Nat} (h : RG w0 w B rb ao cap xs s good a) (n : Nat) (hn : n ≤ xs.length) : RG w0 (w.setCell ⟨rb, 1, none⟩ (.int .i64 (n : Nat))) B rb ao cap xs s good n := by
  obtain ⟨lv, us, hv⟩ := h.rv
  have hg := set_grown w rb 1 (.int .i64 (n : Nat))
  exact h.step ⟨lv, us, ⟨set_at hv.blk 1 _ rfl, OwnRecs.grown hv.log hg h.hr, Room.grown hv.room hg h.hr⟩⟩ (below_of hg h.lt) hn
theorem RG.good {w0 w : World} {B rb : Nat} {ao : Option Addr} {cap : Nat} {xs : List Int} {s : St} {good a : Nat} (h : RG w0 w B rb ao cap xs s good a) (n : Nat) : RG w0 (w.setCell ⟨rb, 7, none⟩ (.int .i64 (n : Nat))) B rb ao cap xs s n a := by
  obtain ⟨lv, us, hv⟩ := h.rv
  have hg := set_grown w rb 7 (.int .i64 (n : Nat))
  exact h.step ⟨lv, us, ⟨set_at hv.blk 7 _ rfl, OwnRecs.grown hv.log hg h.hr, Room.grown hv.room hg h.hr⟩⟩ (below_of hg h.lt) h.le
theorem RG.below {w0 w w' : World} {B rb : Nat} {ao : Option Addr} {cap : Nat} {xs : List Int} {s : St} {good a : Nat} (h : RG w0 w B rb ao cap xs s good a) (hb : Below w.heap.size w w') : RG w0 w' B rb ao cap xs s good a := by
  obtain ⟨lv, us, hv⟩ := h.rv
  have hg := grown_below hb (Nat.le_refl _) (some rb)
  exact h.step ⟨lv, us, ⟨(hb.block rb h.lt).trans hv.blk, OwnRecs.grown hv.log hg h.hr, Room.grown hv.room hg h.hr⟩⟩ (hb.mono (Nat.le_of_lt h.lt)) h.le
theorem RG.drew {w0 w : World} {B rb : Nat} {ao : Option Addr} {cap : Nat} {xs : List Int} {s : St} {good a : Nat} (h : RG w0 w B rb ao cap xs s good a) (n : Nat) : RG w0 (w.drewN n) B rb ao cap xs s good a := h.below ⟨rfl, rfl, rfl, Nat.le_refl _, fun _ _ => rfl⟩
theorem goes {w0 : World} {B rb : Nat} {ao : Option Addr} {cap : Nat} {xs : List Int} {s : St} {good : Nat} (hl : xs.length ≤ 65536) : Goes (fun w a => RG w0 w B rb ao cap xs s good a) rb ao cap xs where
  c0 := fun h => by obtain ⟨_, _, hv⟩ := h.rv; exact cell_of hv.blk rfl
  c1 := fun h => by obtain ⟨_, _, hv⟩ := h.rv; exact cell_of hv.blk rfl
  fz := fun h => by obtain ⟨_, _, hv⟩ := h.rv; exact frozen_of hv.blk 1
  data := fun h => h.rd
  le := fun h => h.le
  len := hl
  drew := fun h n => h.drew n
  put := fun h n hn => h.put n hn

/-- The base stays within its bounds. -/
def baseIn (s : St) : Prop := 0 ≤ s.base ∧ s.base ≤ 1000000
theorem take_base {s s' : St} {p : List Int} (hs : baseIn s) (h : takeS s p = some s') : baseIn s' := by
  unfold takeS at h
  split at h
  · simp at h
  rename_i hn
  simp only [not_or, Decidable.not_not] at hn
  split at h
  · split at h
    · simp at h
    · unfold fitV at h
      split at h
      · simp at h
      · simp only [Option.some.injEq] at h; subst h; exact hs
  split at h
  · split at h
    · simp at h
    · unfold fitE at h
      split at h
      · simp at h
      · simp only [Option.some.injEq] at h; subst h; exact hs
  split at h
  · split at h
    · simp at h
    · unfold fitB at h
      split at h
      · simp at h
      · simp only [Option.some.injEq] at h; subst h; exact hn.2.2.2.1
  · simp at h
theorem frameAt_more (l : List Int) (h : (frameAt l).1 = -1) : 0 < (frameAt l).2.2 ∧ (frameAt l).2.2 ≤ l.length ∧ (frameAt l).2.1.length ≤ 4096 := by
  unfold frameAt at h ⊢
  split
  · rename_i h1; rw [if_pos h1] at h; simp at h
  rename_i h1
  rw [if_neg h1] at h
  split
  · rename_i h2; rw [if_pos h2] at h; simp at h
  rename_i h2
  rw [if_neg h2] at h
  split
  · rename_i h3; rw [if_pos h3] at h; simp at h
  rename_i h3
  rw [if_neg h3] at h
  split
  · rename_i h4; rw [if_pos h4] at h; simp at h
  rename_i h4
  rw [if_neg h4] at h
  split
  · refine ⟨by simp only; omega, by simp only; omega, ?_⟩
    simp only [List.length_take]
    have : (getR 9 0 0 l).1.toNat ≤ 4096 := by omega
    omega
  · rename_i h5; rw [if_neg h5] at h; simp at h
theorem FitE.of {w W : World} {B rb : Nat} {dv : Value} {a : Nat} {s : St} {good : Nat} {r : Option St} {e : Ending} {w' : World} (h : FitE W B rb dv a s good r e w') (hb : Below rb w W) : FitE w B rb dv a s good r e w' := ⟨h.1, h.2.1, hb.trans h.2.2⟩
theorem RV.alloc {w : World} {B rb : Nat} {dv : Value} {a : Nat} {s : St} {lv : Value} {us : List Value} {good : Nat} (h : RV w B rb dv a s lv us good) (hr : rb < B) (o : Obj) : RV (w.alloc o) B rb dv a s lv us good ∧ Below rb w (w.alloc o) := by
  have hlt : rb < w.heap.size := (Array.getElem?_eq_some_iff.1 h.blk).1
  exact ⟨RV.grown h (alloc_grown w o _) hr rfl (by rw [Below.heap_alloc _ _ _ hlt]; exact h.blk), below_of (alloc_grown w o _) hlt⟩

theorem as_yes80 (W : World) (v : Value) : (Instr.typeAssert (.iface 120 v) 115 120 true).run Try.prog W = .ok (.tuple #[v, .bool true]) W := by kernel_rfl
theorem as_no83 (W : World) (v : Value) : (Instr.typeAssert (.iface 122 v) 115 120 true).run Try.prog W = .ok (.tuple #[.agg #[.int .i64 0, .int .i64 0], .bool false]) W := by kernel_rfl
theorem as_no85 (W : World) (v : Value) : (Instr.typeAssert (.iface 127 v) 115 120 true).run Try.prog W = .ok (.tuple #[.agg #[.int .i64 0, .int .i64 0], .bool false]) W := by kernel_rfl
theorem as_yes83 (W : World) (v : Value) : (Instr.typeAssert (.iface 122 v) 115 122 true).run Try.prog W = .ok (.tuple #[v, .bool true]) W := by kernel_rfl
theorem as_no85e (W : World) (v : Value) : (Instr.typeAssert (.iface 127 v) 115 122 true).run Try.prog W = .ok (.tuple #[.agg #[.int .i64 0, .int .i64 0, .slice none 0 0], .bool false]) W := by kernel_rfl
theorem as_yes85 (W : World) (v : Value) : (Instr.typeAssert (.iface 127 v) 115 127 true).run Try.prog W = .ok (.tuple #[v, .bool true]) W := by kernel_rfl

set_option maxHeartbeats 2000000 in
theorem fit_vote (w : World) (B rb : Nat) (dv : Value) (a : Nat) (s : St) (lv : Value) (us : List Value) (good : Nat) (h : RV w B rb dv a s lv us good) (hr : rb < B) (x y : Int) :
    Calls Try.prog 80 #[.pointer (some ⟨rb, 0, none⟩), .iface 120 (.agg #[.int .i64 x, .int .i64 y])] w (FitE w B rb dv a s good (fitV s x y)) := by
  obtain ⟨h1, h2⟩ := RV.alloc h hr (.cells #[.int .i64 x, .int .i64 y] 120)
  have HB := hide h2
  have HC := hide (fitVote_any _ B rb dv a s lv us good h1 hr x y)
  clear h h1 h2
  have q0 := as_yes80
  go_enter Try.func80, Try.ntmps80
  go_wp2_with fail
  refine HC.out.mono ?_
  rintro e w' ⟨rfl, hf⟩
  have HF := hide hf
  clear hf HC
  go_wp2
  go_ret
  exact ⟨rfl, HF.out.1, HB.out.trans HF.out.2⟩

set_option maxHeartbeats 2000000 in
theorem fit_base (w : World) (B rb : Nat) (dv : Value) (a : Nat) (s : St) (lv : Value) (us : List Value) (good : Nat) (h : RV w B rb dv a s lv us good) (hr : rb < B) (x y : Int) (hx : 0 ≤ x ∧ x ≤ 1000000) (hs : 0 ≤ s.base ∧ s.base ≤ 1000000) :
    Calls Try.prog 80 #[.pointer (some ⟨rb, 0, none⟩), .iface 127 (.agg #[.int .i64 x, .int .i64 y])] w (FitE w B rb dv a s good (fitB s x y)) := by
  obtain ⟨h1, h2⟩ := RV.alloc h hr (.cells #[.int .i64 x, .int .i64 y] 127)
  have HB := hide h2
  have HC := hide (fitBase_any _ B rb dv a s lv us good h1 hr x y hx hs)
  clear h h1 h2
  have q0 := as_no85
  have q1 := as_no85e
  have q2 := as_yes85
  go_enter Try.func80, Try.ntmps80
  go_wp2_with fail
  refine HC.out.mono ?_
  rintro e w' ⟨rfl, hf⟩
  have HF := hide hf
  clear hf HC
  go_wp2
  go_ret
  exact ⟨rfl, HF.out.1, HB.out.trans HF.out.2⟩

set_option maxHeartbeats 2000000 in
theorem fit_entry (w : World) (B rb : Nat) (dv : Value) (a : Nat) (s : St) (lv : Value) (us : List Value) (good : Nat) (h : RV w B rb dv a s lv us good) (hr : rb < B) (hBw : B ≤ w.heap.size) (x y : Int) (hy : 0 ≤ y ∧ y ≤ 1000000) (hs : 0 ≤ s.base ∧ s.base ≤ 1000000) (o : Option Addr) (n c : Nat) (d : List Int) (hu : Own w B (.slice o n c) d)
    (hap : ∀ b, (Value.slice o n c).ownBlock = some b → ∀ j, j < us.length → (us.getD j (.slice none 0 0)).ownBlock ≠ some b) :
    Calls Try.prog 80 #[.pointer (some ⟨rb, 0, none⟩), .iface 122 (.agg #[.int .i64 x, .int .i64 y, .slice o n c])] w (FitE w B rb dv a s good (fitE s x y d)) := by
  obtain ⟨h1, h2⟩ := RV.alloc h hr (.cells #[.int .i64 x, .int .i64 y, .slice o n c] 122)
  have HB := hide h2
  have hg := alloc_grown w (.cells #[.int .i64 x, .int .i64 y, .slice o n c] 122) none
  have HC := hide (fitEntry_any _ B rb dv a s lv us good h1 hr (Nat.le_trans hBw hg.size) x y hy hs o n c d (own_keptR hu hg (fun _ _ e => by simp at e)) hap)
  clear h h1 h2 hg hu hap
  have q0 := as_no83
  have q1 := as_yes83
  go_enter Try.func80, Try.ntmps80
  go_wp2_with fail
  refine HC.out.mono ?_
  rintro e w' ⟨rfl, hf⟩
  have HF := hide hf
  clear hf HC
  go_wp2
  go_ret
  exact ⟨rfl, HF.out.1, HB.out.trans HF.out.2⟩

/-- A payload is read: no record, or one that the state is asked to take. -/
theorem read_fit {w0 w : World} {B rb : Nat} {ao : Option Addr} {cap : Nat} {xs : List Int} {s : St} {good a : Nat} (h : RG w0 w B rb ao cap xs s good a) (hs : baseIn s) (o : Option Addr) (c : Nat) (p : List Int) (hp : RdA w (.slice o p.length c) p) (hl : p.length ≤ 65536) :
    Calls Try.prog 79 #[.slice o p.length c] w fun e w' => RG w0 w' B rb ao cap xs s good a ∧ ((∃ r, e = .returned (.tuple #[r, .bool false]) ∧ takeS s p = none) ∨
      ∃ r, e = .returned (.tuple #[r, .bool true]) ∧ Calls Try.prog 80 #[.pointer (some ⟨rb, 0, none⟩), r] w' (FitE w' B rb (.slice ao xs.length cap) a s good (takeS s p))) := by
  refine (readRecord_any w o c p hp hl).mono ?_
  rintro e w' ⟨hb, h'⟩
  have hg := h.below hb
  refine ⟨hg, ?_⟩
  obtain ⟨lv, us, hv⟩ := hg.rv
  rcases h' with ⟨r, rfl, hn⟩ | ⟨x, y, rfl, ht, hk⟩ | ⟨x, y, rfl, ht, hk⟩ | ⟨x, y, o2, n2, c2, d, rfl, hO, hd, ht, hk⟩
  · exact .inl ⟨r, rfl, hn s⟩
  · refine .inr ⟨_, rfl, ?_⟩
    rw [hk s]
    exact fit_vote w' B rb _ a s lv us good hv h.hr x y
  · refine .inr ⟨_, rfl, ?_⟩
    rw [hk s]
    exact fit_base w' B rb _ a s lv us good hv h.hr x y ht.1 hs
  · refine .inr ⟨_, rfl, ?_⟩
    rw [hk s]
    obtain ⟨lv0, us0, hv0⟩ := h.rv
    have hg0 := grown_below hb (Nat.le_refl _) (some rb)
    have hv1 : RV w' B rb (.slice ao xs.length cap) a s lv0 us0 good := ⟨(hb.block rb h.lt).trans hv0.blk, OwnRecs.grown hv0.log hg0 h.hr, Room.grown hv0.room hg0 h.hr⟩
    refine fit_entry w' B rb _ a s lv0 us0 good hv1 h.hr hg.size x y ht.2.1 hs o2 n2 c2 d (hO.mono h.size) (fun b hb2 j hj e => ?_)
    have h1 := (hO.lt b hb2).1
    have h2 := ((hv0.log.each j (by rw [← hv0.log.len]; exact hj)).lt b e).2
    omega
end Go.Proofs.Ytipcdioolafkpaa.goesalong

/- A run says lines. -/
import Derived.Test.YtdhachmelgdknaaGreatDoorRun
namespace Go.Proofs.YtdhachmelgdknaaGreatDoor.run
open Go.ChangeShapes Go.WideShapes Go.ChangeAt Go.RowKit
open Go.Proofs.YtdhachmelgdknaaGreatDoor.bas Go.Proofs.YtdhachmelgdknaaGreatDoor.rdr
set_option linter.unusedVariables false
theorem info5 : (Tryz.prog.info? 5).map (fun i => (i.zero, i.size, i.bytes)) = some (some (.int .u8 0), 1, 1) := by kernel_rfl
/-- What has been said, in memory. -/
def SD (w : World) (base : Nat) (v : Value) (S : ByteArray) : Prop := w.ownsRow base 5 1 v S.size (Lib.strCells S)
theorem cells_app (a b : ByteArray) : Lib.strCells (a ++ b) = Lib.strCells a ++ Lib.strCells b := by
  simp [Lib.strCells]
theorem SD.form {w : World} {base : Nat} {v : Value} {S : ByteArray} (h : SD w base v S) : ∃ o c, v = .slice o S.size c := by
  obtain ⟨h1, ⟨e, hx⟩ | ⟨g, cap, cur, e, _⟩⟩ := h
  · exact ⟨none, 0, by rw [e, hx]⟩
  · exact ⟨_, _, e⟩
/-- A block of bytes. -/
def isB : Obj → Bool
  | .cells _ t _ => t == 5
  | _ => false
/-- A run's block and rows of bytes from base on are written, new blocks made. -/
structure KP (base : Nat) (d : Nat) (w w' : World) : Prop where
  os : w'.os = w.os
  tape : w'.tape = w.tape
  output : w'.output = w.output
  size : w.heap.size ≤ w'.heap.size
  low : ∀ k, k < base → k ≠ d → w'.heap[k]? = w.heap[k]?
  oth : ∀ k o, w.heap[k]? = some o → isB o = false → k ≠ d → w'.heap[k]? = some o
theorem KP.refl (base d : Nat) (w : World) : KP base d w w := ⟨rfl, rfl, rfl, Nat.le_refl _, fun _ _ _ => rfl, fun _ _ h _ _ => h⟩
theorem KP.trans {base d : Nat} {a b c : World} (h : KP base d a b) (g : KP base d b c) : KP base d a c :=
  ⟨g.os.trans h.os, g.tape.trans h.tape, g.output.trans h.output, Nat.le_trans h.size g.size, fun k hk hd => (g.low k hk hd).trans (h.low k hk hd), fun k o hk hb hd => g.oth k o (h.oth k o hk hb hd) hb hd⟩
theorem KP.grown {base d : Nat} {w w' : World} (g : w.grownBy w' (some d)) (hb : base ≤ w.heap.size) : KP base d w w' :=
  ⟨g.os, g.tape, g.output, g.size, fun k hk hd => g.block k (by omega) (by simpa using hd), fun k o hk _ hd => (g.block k (Array.getElem?_eq_some_iff.1 hk).1 (by simpa using hd)).trans hk⟩
theorem SD.blk {w : World} {base : Nat} {v : Value} {S : ByteArray} (h : SD w base v S) {k : Nat} (hk : v.ownBlock = some k) : base ≤ k ∧ ∃ cur, w.heap[k]? = some (.cells cur 5 (0, 0)) := by
  obtain ⟨h1, ⟨e, hx⟩ | ⟨g, cap, cur, e, hb, hg, _⟩⟩ := h
  · rw [e] at hk; cases hk
  · rw [e] at hk
    have : g = k := by simpa [Value.ownBlock] using hk
    subst this
    exact ⟨hb, cur, hg⟩
theorem KP.append {base d : Nat} {w w' : World} {v : Value} {S : ByteArray} (h : SD w base v S) (g : w.grownBy w' v.ownBlock) (hb : base ≤ w.heap.size) : KP base d w w' :=
  ⟨g.os, g.tape, g.output, g.size, fun k hk _ => g.block k (by omega) (fun e => by have := (h.blk e.symm).1; omega), fun k o hk hB _ => (g.block k (Array.getElem?_eq_some_iff.1 hk).1 (fun e => by
    obtain ⟨_, cur, hc⟩ := h.blk e.symm
    rw [hk] at hc
    obtain rfl := Option.some.inj hc
    simp [isB] at hB)).trans hk⟩
theorem KP.ru {base d : Nat} {w w' : World} {v : Value} {S : ByteArray} {u : U} (h : RU w d u) (hs : SD w base v S) (g : w.grownBy w' v.ownBlock) : RU w' d u := h.keep (g.block d h.lt (fun e => by
    obtain ⟨_, cur, hc⟩ := hs.blk e.symm
    have := hc.symm.trans h
    simp at this))
theorem SD.keep {base : Nat} {w w' : World} {v : Value} {S : ByteArray} (h : SD w base v S) (hk : ∀ k, v.ownBlock = some k → w'.heap[k]? = w.heap[k]?) : SD w' base v S := by
  obtain ⟨h1, h2 | ⟨g, cap, cur, e, hb, hg, r⟩⟩ := h
  · exact ⟨h1, .inl h2⟩
  · exact ⟨h1, .inr ⟨g, cap, cur, e, hb, (hk g (by rw [e]; rfl)).trans hg, r⟩⟩
/-- Behind the saying of a line. -/
structure Sy (base d : Nat) (u : U) (S : ByteArray) (w wr : World) : Prop where
  ex : ∃ v, RU wr d { u with sd := v } ∧ SD wr base v S
  kp : KP base d w wr
  bz : base ≤ wr.heap.size
theorem join_snoc (ls : List ByteArray) (a : ByteArray) : joinL (ls ++ [a]) = joinL ls ++ a ++ nl := by
  induction ls with
  | nil =>
    show a ++ nl ++ bas.mt = bas.mt ++ a ++ nl
    apply of_list
    simp [bas.mt]
  | cons b r ih =>
    rw [List.cons_append, joinL, joinL, ih]
    apply of_list
    simp
theorem own_form {w : World} {base n : Nat} {v : Value} {xs : List Value} (h : w.ownsRow base 5 1 v n xs) : ∃ o c, v = .slice o n c := by
  obtain ⟨h1, ⟨e, hx⟩ | ⟨g, cap, cur, e, _⟩⟩ := h
  · exact ⟨none, 0, by rw [e, hx]⟩
  · exact ⟨_, _, e⟩
set_option maxHeartbeats 1600000 in
theorem say_nil {w : World} {d : Nat} (lc : Nat) : Calls Tryz.prog 98 #[.pointer (some ⟨d, 2, none⟩), .slice none 0 lc] w fun e w' => e = .returned (.tuple #[]) ∧ w' = w := by
  go_enter Tryz.func98, Tryz.ntmps98
  go_wp2
  go_loopw [8] (fun v wr => v = .int .i64 0 ∧ wr = w) (fun v _ => 0)
  case atStart => exact ⟨rfl, rfl⟩
  case round =>
    obtain ⟨rfl, rfl⟩ := hrel
    go_wp2
    go_end0
    exact ⟨rfl, rfl⟩
set_option maxRecDepth 20000 in
set_option maxHeartbeats 3200000 in
theorem say_any (base : Nat) {w : World} {d : Nat} {u : U} {S : ByteArray} (g lc : Nat) (ls : List ByteArray) (hU : RU w d u) (hS : SD w base u.sd S) (hL : LN w g ls) (ob : Obj) (hg : w.heap[g]? = some ob) (hob : isB ob = false) (hgd : g ≠ d) (hb : base ≤ w.heap.size) (hlen : ls.length ≤ 1000) (hlc : ls.length ≤ lc) (hsz : S.size + (joinL ls).size ≤ 8000) :
    Calls Tryz.prog 98 #[.pointer (some ⟨d, 2, none⟩), .slice (some ⟨g, 0, none⟩) ls.length lc] w fun e w' => e = .returned (.tuple #[]) ∧ Sy base d u (S ++ joinL ls) w w' := by
  obtain ⟨i0, hi, hz0, hz1, hz2⟩ := info_parts info5
  have HI : Hid (Tryz.prog.info? 5 = some i0 ∧ i0.zero = some (.int .u8 0) ∧ i0.size = 1 ∧ i0.bytes = 1) := ⟨hi, hz0, hz1, hz2⟩
  clear hi hz0 hz1 hz2
  have H0 : Hid (Sy base d u (S ++ joinL (ls.take 0)) w w) := by
    refine ⟨⟨u.sd, hU, ?_⟩, KP.refl _ _ _, hb⟩
    have e : S ++ joinL (ls.take 0) = S := by
      apply of_list
      simp [joinL, bas.mt]
    rw [e]
    exact hS
  have HSz : Hid (∀ k, k < ls.length → ∀ a, ls[k]? = some a → (S ++ joinL (ls.take k)).size + a.size + 1 ≤ 8000 ∧ S ++ joinL (ls.take (k + 1)) = S ++ joinL (ls.take k) ++ a ++ nl) := by
    intro k hk a ha
    have e : ls.take (k + 1) = ls.take k ++ [a] := by rw [List.take_add_one, ha]; rfl
    have e2 : S ++ joinL (ls.take (k + 1)) = S ++ joinL (ls.take k) ++ a ++ nl := by
      rw [e, join_snoc]
      apply of_list
      simp
    refine ⟨?_, e2⟩
    have h3 : (joinL (ls.take (k + 1))).size ≤ (joinL ls).size := by
      have : ∀ (m : Nat) (xs : List ByteArray), (joinL (xs.take m)).size ≤ (joinL xs).size := by
        intro m
        induction m with
        | zero => intro xs; rw [List.take_zero]; exact Nat.zero_le _
        | succ m ih =>
          intro xs
          cases xs with
          | nil => simp
          | cons x r =>
            have := ih r
            simp only [List.take_succ_cons, joinL, ByteArray.size_append]
            omega
      exact this _ _
    have h4 := congrArg ByteArray.size e2
    simp only [ByteArray.size_append] at h4 ⊢
    have : nl.size = 1 := rfl
    omega
  have HLn : Hid (∀ wr, KP base d w wr → LN wr g ls) := fun wr hk j a ha => by
    have := hL j a ha
    rw [World.cell?_of_block (show wr.heap[(⟨g, j, none⟩ : Addr).block]? = w.heap[(⟨g, j, none⟩ : Addr).block]? from (hk.oth g ob hg hob hgd).trans hg.symm)]
    exact this
  clear hU hS hL hg hob hgd hb hsz
  go_enter Tryz.func98, Tryz.ntmps98
  go_wp2
  go_loopw [8] (fun v wr => ∃ k : Nat, k ≤ ls.length ∧ v = .int .i64 k ∧ Hid (Sy base d u (S ++ joinL (ls.take k)) w wr)) (fun v _ => ls.length - (intOf v).toNat)
  case atStart => exact ⟨0, by omega, rfl, H0⟩
  case round =>
    obtain ⟨k, hk, rfl, HY⟩ := hrel
    clear H0
    by_cases hlt : k < ls.length
    · obtain ⟨a, ha⟩ : ∃ a, ls[k]? = some a := ⟨_, List.getElem?_eq_getElem hlt⟩
      obtain ⟨v, hU, hS⟩ := HY.out.ex
      have hKP := HY.out.kp
      have hbz := HY.out.bz
      obtain ⟨hz, he⟩ := HSz.out k hlt a ha
      have cl := HLn.out wr hKP k a ha
      obtain ⟨o, c, rfl⟩ := hS.form
      have c2 := hU.c2
      dsimp only at c2
      obtain ⟨S', eS⟩ : ∃ S', S ++ joinL (ls.take k) = S' := ⟨_, rfl⟩
      rw [eS] at hS hz he c2 hU
      have hq : decide (8000 < (S'.size : Int) + (a.size : Int) + 1) = false := by simp; omega
      have hzN : S'.size + a.size + 1 ≤ 8000 := hz
      have HU := hide hU
      have HS := hide hS
      have HK := hide hKP
      have HE := hide he
      clear hU hS hKP he ha HY HLn eS
      go_wp2_with (at_builtin; first
        | (have _h := HV1
           refine Lib.wpList_append_own_string w1 rfl _ _ 22 9 rfl base 5 i0 Tryz.underlying22 Tryz.underlying9 HI.out.1 HI.out.2.1 HI.out.2.2.1 HI.out.2.2.2 (.slice o1 (S'.size + a.size) c1) _ _ rfl HV1.out ⟨#[10]⟩ rfl (by unfold maxLen; have : (⟨#[10]⟩ : ByteArray).size = 1 := rfl; omega) (by have : (⟨#[10]⟩ : ByteArray).size = 1 := rfl; omega) hb1 ?_
           intro v2 w2 O2 G2 _
           obtain ⟨o2, c2', e2⟩ := own_form O2
           subst e2
           have HV2 := hide (And.intro O2 G2)
           clear O2 G2
           have q2 : w2.cell? ⟨d, 2, none⟩ = some (.slice o S'.size c) := (KP.ru HU1.out (show SD w1 base (.slice o1 (S'.size + a.size) c1) (S' ++ a) by unfold SD; rw [cells_app, ByteArray.size_append]; exact HV1.out) HV2.out.2).c2
           have qf : w2.frozen? ⟨d, 2, none⟩ = false := (KP.ru HU1.out (show SD w1 base (.slice o1 (S'.size + a.size) c1) (S' ++ a) by unfold SD; rw [cells_app, ByteArray.size_append]; exact HV1.out) HV2.out.2).fz 2)
        | (refine Lib.wpList_append_own_string wr rfl _ _ 22 9 rfl base 5 i0 Tryz.underlying22 Tryz.underlying9 HI.out.1 HI.out.2.1 HI.out.2.2.1 HI.out.2.2.2 (.slice o S'.size c) _ _ rfl HS.out a rfl (by unfold maxLen; omega) (by omega) hbz ?_
           intro v1 w1 O1 G1 _
           obtain ⟨o1, c1, e1⟩ := own_form O1
           subst e1
           have HV1 := hide O1
           have HK1 : Hid (KP base d wr w1) := KP.append HS.out G1 hbz
           have HU1 := hide (KP.ru HU.out HS.out G1)
           have hb1 : base ≤ w1.heap.size := Nat.le_trans hbz G1.size
           clear O1 G1))
      refine ⟨⟨k + 1, by omega, by go_num, ?_⟩, by simp [intOf]; omega⟩
      have hs1 : SD w1 base (.slice o1 (S'.size + a.size) c1) (S' ++ a) := by unfold SD; rw [cells_app, ByteArray.size_append]; exact HV1.out
      have hu2 := KP.ru HU1.out hs1 HV2.out.2
      have hs2 : SD w2 base (.slice o2 (S'.size + a.size + 1) c2') (S' ++ a ++ nl) := by
        unfold SD
        rw [cells_app, cells_app, ByteArray.size_append, ByteArray.size_append]
        exact HV2.out.1
      have hb2 : base ≤ w2.heap.size := Nat.le_trans hb1 HV2.out.2.size
      refine hide ⟨⟨_, hu2.set2 _, ?_⟩, ?_, by simpa using hb2⟩
      · rw [HE.out]
        refine hs2.keep (fun j hj => Below.heap_setCell _ _ _ _ ?_)
        rintro rfl
        obtain ⟨_, cur, hc⟩ := hs2.blk hj
        have := hc.symm.trans hu2
        simp at this
      · exact ((HK.out.trans HK1.out).trans (KP.append hs1 HV2.out.2 hb1)).trans (KP.grown (grown_set (grown_refl _ _) _ _) hb2)
    · have hke : k = ls.length := by omega
      subst hke
      rw [List.take_length] at HY
      clear HSz HLn hlt
      go_wp2
      go_end0
      exact ⟨rfl, HY.out⟩
end Go.Proofs.YtdhachmelgdknaaGreatDoor.run

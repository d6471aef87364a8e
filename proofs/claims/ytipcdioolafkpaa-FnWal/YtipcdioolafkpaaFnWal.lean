/- FnWal returns true at all bytes and leaves them as they were: a drawn state of a log that is written down is recovered as it, with all its bytes good, and any bytes are recovered as the specification says; no condition. -/
import Derived.Test.YtipcdioolafkpaaPile
import Derived.Laws.BytesString
import Derived.Laws.IdiomStrings
import Derived.Lib.BufferRead
import Derived.Test.YtipcdioolafkpaaReader
import Derived.Test.YtipcdioolafkpaaRecLaw
import Derived.Test.YtipcdioolafkpaaWalOfs
import Derived.Test.YtipcdioolafkpaaParts
import Derived.Test.YtipcdioolafkpaaLogCells
import Derived.Test.YtipcdioolafkpaaWalHelp
import Derived.Test.YtipcdioolafkpaaWalDraw
import Derived.OpenShut
import Derived.ShutString
import Derived.ChangeOld
/- Contract of the laws' own choice out of n: it is a number from 0 to n - 1; and what a text of bytes is. -/
namespace Go.Proofs.Ytipcdioolafkpaa.choice
open Go.ChangeShapes Go.WideShapes Go.ChangeAt Go.RowKit
open Go.Proofs.Ytipcdioolafkpaa.bytes Go.Proofs.Ytipcdioolafkpaa.pile
set_option linter.unusedVariables false

def strOf (ys : List Int) : ByteArray := ⟨(ys.map fun y => UInt8.ofNat y.toNat).toArray⟩

theorem run_str {w : World} {u : Value} {ys : List Int} (h : RdA w u ys) : (convert 22 9 u).run Try.prog w = .ok (.string (strOf ys)) w := by
  obtain ⟨⟨ao, cap, rfl, h1, h2, h3, h4⟩, hnil⟩ := h
  cases ao with
  | none =>
    have e := hnil _ _ rfl
    simp only [Value.slice.injEq, true_and] at e
    have hys : ys = [] := List.length_eq_zero_iff.1 e.1
    subst hys
    exact Lib.run_convert_nil_bytes w 22 9 5 cap Try.underlying22 Try.underlying5 Try.underlying9
  | some ad =>
    have hl : (ys.map fun y => UInt8.ofNat y.toNat).length = ys.length := by simp
    have := run_convert_bytes_back (P := Try.prog) w 22 9 5 ad cap (ys.map fun y => UInt8.ofNat y.toNat) Try.underlying22 Try.underlying5 Try.underlying9 (fun j hj => by
      rw [hl] at hj
      obtain ⟨b, off, e, hc⟩ := h4 (by omega)
      simp only [Option.some.injEq] at e
      subst e
      rw [add_at, hc j hj]
      have hb := h3 _ (List.getElem_mem hj)
      have hmod : (UInt8.ofNat (ys[j]).toNat).toNat = (ys[j]).toNat := by
        simp
        omega
      simp only [List.getElem_map, hmod, List.getD_eq_getElem?_getD, List.getElem?_eq_getElem hj, Option.getD_some]
      congr 2
      omega)
    rw [hl] at this
    exact this

set_option maxHeartbeats 800000 in
theorem at_any (w : World) (b : Value) (xs : List Int) (i : Nat) (n : Int) (hi : i ≤ 1000) (hn : n ≤ 1000000000) (hb : Rd w b xs) :
    Calls Try.prog 9 #[b, .int .i64 i, .int .i64 n] w fun e w' => ∃ r : Int, e = .returned (.int .i64 r) ∧ 0 ≤ r ∧ (r < n ∨ (n ≤ 1 ∧ r = 0)) ∧ ∃ m, w' = w.drewN m := by
  obtain ⟨ao, ca, rfl, ha1, ha2, hx, ha3⟩ := hb
  unfold maxLen at ha2
  by_cases h1 : n ≤ 1
  · go_enter Try.func9, Try.ntmps9
    go_wp2
    go_ret
    exact ⟨0, rfl, by omega, .inr ⟨h1, rfl⟩, 0, rfl⟩
  · have hn0 : n ≠ 0 := by omega
    by_cases h0 : xs.length = 0
    · have hz : (((xs.length : Nat) : Int) == 0) = true := by simp [h0]
      go_enter Try.func9, Try.ntmps9
      go_wp2
      go_ret
      exact ⟨_, rfl, Int.emod_nonneg _ hn0, .inl (Int.emod_lt_of_pos _ (by omega)), 0, rfl⟩
    · have hz : (((xs.length : Nat) : Int) == 0) = false := beq_eq_false_iff_ne.2 (by omega)
      obtain ⟨ab, aoff, rfl, hca⟩ := ha3 (by omega)
      have hc1 := hca (i % xs.length) (Nat.mod_lt _ (by omega))
      have hc2 := hca ((i + 1) % xs.length) (Nat.mod_lt _ (by omega))
      have hb1 := getD_bd hx (i % xs.length)
      have hb2 := getD_bd hx ((i + 1) % xs.length)
      generalize xs.getD (i % xs.length) 0 = c1 at hc1 hb1
      generalize xs.getD ((i + 1) % xs.length) 0 = c2 at hc2 hb2
      have ht1 : ((i : Nat) : Int).tmod xs.length = ((i % xs.length : Nat) : Int) := rfl
      have ht2 : (((i : Nat) : Int) + 1).tmod xs.length = (((i + 1) % xs.length : Nat) : Int) := rfl
      have hq : ((i : Nat) : Int).tdiv xs.length = ((i / xs.length : Nat) : Int) := rfl
      have hm1 : i % xs.length < xs.length := Nat.mod_lt _ (by omega)
      have hm2 : (i + 1) % xs.length < xs.length := Nat.mod_lt _ (by omega)
      have hq1 : i / xs.length ≤ i := Nat.div_le_self _ _
      generalize i % xs.length = m1 at hc1 ht1 hm1
      generalize (i + 1) % xs.length = m2 at hc2 ht2 hm2
      generalize i / xs.length = q at hq hq1
      clear hca ha3 hx
      go_enter Try.func9, Try.ntmps9
      go_wp2
      go_quiet (fail)
      go_wp2
      go_ret
      exact ⟨_, rfl, Int.emod_nonneg _ hn0, .inl (Int.emod_lt_of_pos _ (by omega)), _, rfl⟩
end Go.Proofs.Ytipcdioolafkpaa.choice

/- Contract of the laws' own comparison of two lists of bytes: lists that read alike are the same. -/
namespace Go.Proofs.Ytipcdioolafkpaa.same
open Go.ChangeShapes Go.WideShapes Go.ChangeAt Go.RowKit
open Go.Proofs.Ytipcdioolafkpaa.bytes Go.Proofs.Ytipcdioolafkpaa.pile Go.Proofs.Ytipcdioolafkpaa.reader Go.Proofs.Ytipcdioolafkpaa.choice
set_option linter.unusedVariables false

theorem row_rdS {w : World} {base : Nat} {a : Value} {us : List Value} (h : w.ownsRow base 22 1 a us.length us) : RdS w a us := by
  have h' := h
  obtain ⟨h1, ⟨rfl, h2⟩ | ⟨g, cap, cur, rfl, hb, hg, hnc, hcm, hcs, htake⟩⟩ := h
  · exact ⟨none, 0, by rw [h2], by omega, by simp [maxLen], fun hp => by omega⟩
  · refine ⟨_, cap, rfl, hnc, hcm, fun hp => ⟨g, 0, rfl, fun i hi => ?_⟩⟩
    have := World.ownsRow.cellAt h' i (by omega)
    rw [Nat.zero_add, this]
    simp [List.getD_eq_getElem?_getD, hi]

set_option maxHeartbeats 800000 in
theorem same_any (w : World) (a b : Value) (us vs : List Value) (xss : List (List Int)) (ha : RdS w a us) (hb : RdS w b vs) (hta : Texts w us xss) (htb : Texts w vs xss) :
    Calls Try.prog 16 #[a, b] w fun e w' => e = .returned (.bool true) ∧ ∃ n, w' = w.drewN n := by
  have HT : Hid (Texts w us xss ∧ Texts w vs xss) := ⟨hta, htb⟩
  have hl1 := hta.1
  have hl2 := htb.1
  have hl : us.length = vs.length := by omega
  clear hta htb hl1 hl2
  obtain ⟨ao, ca, rfl, ha1, ha2, ha3⟩ := ha
  obtain ⟨bo, cb, rfl, hb1, hb2, hb3⟩ := hb
  unfold maxLen at ha2 hb2
  have HL : Hid (us.length = vs.length) := hl
  rw [← hl] at hb1 hb3
  rw [← hl]
  clear hl
  have hne : (((us.length : Nat) : Int) != ((us.length : Nat) : Int)) = false := by simp
  go_enter Try.func16, Try.ntmps16
  go_wp2
  go_loopw [5] (fun i wr => ∃ k m : Nat, k ≤ us.length ∧ i = .int .i64 k ∧ wr = w.drewN m) (fun i _ => us.length - (intOf i).toNat)
  case atStart => exact ⟨0, 0, by omega, rfl, rfl⟩
  case round =>
    obtain ⟨k, m, hk, rfl, rfl⟩ := hrel
    by_cases hlt : k < us.length
    · obtain ⟨ab, aoff, rfl, hca⟩ := ha3 (by omega)
      obtain ⟨bb, boff, rfl, hcb⟩ := hb3 (by omega)
      have hca' := hca k hlt
      have hcb' := hcb k hlt
      have hk1 : ∀ x, (convert 22 9 (us.getD k (.slice none 0 0))).run Try.prog (w.drewN x) = .ok (.string (strOf (xss.getD k []))) (w.drewN x) := fun x => run_str ((HT.out.1.2 k hlt).below (below_same w x) (Nat.le_refl _))
      have hk2 : ∀ x, (convert 22 9 (vs.getD k (.slice none 0 0))).run Try.prog (w.drewN x) = .ok (.string (strOf (xss.getD k []))) (w.drewN x) := fun x => run_str ((HT.out.2.2 k (by rw [← HL.out]; exact hlt)).below (below_same w x) (Nat.le_refl _))
      clear hca hcb ha3 hb3
      generalize strOf (xss.getD k []) = s at hk1 hk2
      generalize us.getD k (.slice none 0 0) = u at hca' hk1
      generalize vs.getD k (.slice none 0 0) = v at hcb' hk2
      go_wp2
      go_quiet (fail)
      go_wp2
      go_roundw
      case rel => exact ⟨k + 1, _, by omega, by go_num, rfl⟩
      case measure => simp [intOf]; omega
    · go_wp2
      go_ret
      exact ⟨rfl, m, rfl⟩
end Go.Proofs.Ytipcdioolafkpaa.same

/- Records in frames are recovered: of numbers alone. -/
namespace Go.Proofs.Ytipcdioolafkpaa.streams
open Go.ChangeShapes Go.WideShapes Go.ChangeAt Go.RowKit
open Go.Proofs.Ytipcdioolafkpaa.bytes Go.Proofs.Ytipcdioolafkpaa.pile Go.Proofs.Ytipcdioolafkpaa.put Go.Proofs.Ytipcdioolafkpaa.crcs Go.Proofs.Ytipcdioolafkpaa.join Go.Proofs.Ytipcdioolafkpaa.frames Go.Proofs.Ytipcdioolafkpaa.get Go.Proofs.Ytipcdioolafkpaa.dec Go.Proofs.Ytipcdioolafkpaa.take Go.Proofs.Ytipcdioolafkpaa.one Go.Proofs.Ytipcdioolafkpaa.back Go.Proofs.Ytipcdioolafkpaa.parts Go.Proofs.Ytipcdioolafkpaa.votes Go.Proofs.Ytipcdioolafkpaa.pays Go.Proofs.Ytipcdioolafkpaa.rechelp Go.Proofs.Ytipcdioolafkpaa.recrows Go.Proofs.Ytipcdioolafkpaa.walhelp Go.Proofs.Ytipcdioolafkpaa.recov Go.Proofs.Ytipcdioolafkpaa.readrecord Go.Proofs.Ytipcdioolafkpaa.goesalong Go.Proofs.Ytipcdioolafkpaa.recovers Go.Proofs.Ytipcdioolafkpaa.recoveri Go.Proofs.Ytipcdioolafkpaa.specs Go.Proofs.Ytipcdioolafkpaa.recs Go.Proofs.Ytipcdioolafkpaa.entries Go.Proofs.Ytipcdioolafkpaa.walright Go.Proofs.Ytipcdioolafkpaa.walof Go.Proofs.Ytipcdioolafkpaa.recovers2 Go.Proofs.Ytipcdioolafkpaa.reclaw
set_option linter.unusedVariables false

/-- Payloads are done one behind the other. -/
def recP : List (List Int) → St → Nat → St × Nat
  | [], s, a => (s, a)
  | p :: ps, s, a => match takeS s p with
    | none => (s, a)
    | some s' => recP ps s' (a + (frameN p).length)
theorem recP_none {p : List Int} {ps : List (List Int)} {s : St} {a : Nat} (h : takeS s p = none) : recP (p :: ps) s a = (s, a) := by rw [recP, h]
theorem recP_some {p : List Int} {ps : List (List Int)} {s s' : St} {a : Nat} (h : takeS s p = some s') : recP (p :: ps) s a = recP ps s' (a + (frameN p).length) := by rw [recP, h]
/-- Frames, and behind them what is none. -/
theorem rec_stream (xs tail : List Int) (ht : (frameAt tail).1 ≠ -1) : ∀ (ps : List (List Int)) (f : Nat) (s : St) (a : Nat), (∀ p ∈ ps, p.length ≤ 4096) → xs.drop a = stream ps ++ tail → xs.length - a < f → a ≤ xs.length → recL xs f s a = recP ps s a
  | [], f, s, a, _, hd, hf, ha => by
    obtain ⟨f', rfl⟩ : ∃ f', f = f' + 1 := ⟨f - 1, by omega⟩
    rw [recL_none (by rw [hd]; simpa [stream] using ht), recP]
  | p :: ps, f, s, a, hp, hd, hf, ha => by
    obtain ⟨f', rfl⟩ : ∃ f', f = f' + 1 := ⟨f - 1, by omega⟩
    have hpl := hp p (by simp)
    have hpos := frameN_pos p
    rw [stream_cons, List.append_assoc] at hd
    have hw := frameAt_whole p (stream ps ++ tail) hpl
    have hlen : xs.length - a = (frameN p).length + (stream ps ++ tail).length := by
      have := congrArg List.length hd
      rw [List.length_drop, List.length_append] at this
      exact this
    cases hk : takeS s p with
    | none => rw [recL_stop (by rw [hd, hw]) (by rw [hd, hw]; exact hk), recP_none hk]
    | some s' =>
      rw [recL_some (by rw [hd, hw]) (by rw [hd, hw]; exact hk), recP_some hk, hd, hw]
      refine rec_stream xs tail ht ps f' s' _ (fun q hq => hp q (by simp [hq])) ?_ (by simp only; omega) (by simp only; omega)
      simp only
      rw [← List.drop_drop, hd, List.drop_left]
/-- How far they are done. -/
theorem recP_le : ∀ (ps : List (List Int)) (s : St) (a : Nat), a ≤ (recP ps s a).2 ∧ (recP ps s a).2 ≤ a + (stream ps).length
  | [], s, a => by simp [recP, stream]
  | p :: ps, s, a => by
    cases hk : takeS s p with
    | none => rw [recP_none hk]; simp
    | some s' =>
      rw [recP_some hk, stream_cons, List.length_append]
      have := recP_le ps s' (a + (frameN p).length)
      omega
/-- What was done is done of the beginning alone. -/
theorem recP_cut : ∀ (ps : List (List Int)) (s : St) (a : Nat), ∃ m, m ≤ ps.length ∧ (recP ps s a).2 = a + (stream (ps.take m)).length ∧ recP (ps.take m) s a = recP ps s a
  | [], s, a => ⟨0, by simp, by simp [recP, stream], by simp⟩
  | p :: ps, s, a => by
    cases hk : takeS s p with
    | none => exact ⟨0, by simp, by rw [recP_none hk]; simp [stream], by rw [recP_none hk, List.take_zero, recP]⟩
    | some s' =>
      obtain ⟨m, h1, h2, h3⟩ := recP_cut ps s' (a + (frameN p).length)
      refine ⟨m + 1, by simp; omega, ?_, ?_⟩
      · rw [recP_some hk, h2, List.take_succ_cons, stream_cons, List.length_append]; omega
      · rw [List.take_succ_cons, recP_some hk, recP_some hk, h3]
theorem recA_stream (ps : List (List Int)) (hp : ∀ p ∈ ps, p.length ≤ 4096) (tail : List Int) (ht : (frameAt tail).1 ≠ -1) (hl : (stream ps ++ tail).length ≤ 65536) : recA (stream ps ++ tail) = ((recP ps zSt 0).1, (recP ps zSt 0).2, 0) := by
  unfold recA
  rw [if_neg (by omega), rec_stream (stream ps ++ tail) tail ht ps _ zSt 0 hp (by simp) (by omega) (by omega)]
theorem nil_none : (frameAt []).1 ≠ -1 := by rw [frameAt_nil]; decide

theorem drop_len {A B : List Int} : (A ++ B).drop A.length = B := List.drop_left
theorem num_two (k : Int) (T V : Nat) (hT : T ≤ 1000000) (hV : V ≤ 1000000) (d : List Int) : num1 (k :: (putN T ++ (putN V ++ d))) = ((T : Int), (putN T).length, 0) ∧ num2 (k :: (putN T ++ (putN V ++ d))) = ((V : Int), (putN V).length, 0) ∧ restP (k :: (putN T ++ (putN V ++ d))) = d := by
  have l1 : (putN T).length ≤ 9 := Nat.le_trans (putN_len 2 T (by omega)) (by omega)
  have l2 : (putN V).length ≤ 9 := Nat.le_trans (putN_len 2 V (by omega)) (by omega)
  have h1 : num1 (k :: (putN T ++ (putN V ++ d))) = ((T : Int), (putN T).length, 0) := by
    unfold num1
    rw [List.drop_succ_cons, List.drop_zero, getR_put T 9 0 0 _ l1 (.inl rfl)]
    simp
  have h2 : num2 (k :: (putN T ++ (putN V ++ d))) = ((V : Int), (putN V).length, 0) := by
    unfold num2
    rw [h1, Nat.add_comm 1, List.drop_succ_cons, drop_len, getR_put V 9 0 0 _ l2 (.inl rfl)]
    simp
  refine ⟨h1, h2, ?_⟩
  unfold restP
  rw [h1, h2, show 1 + (putN T).length + (putN V).length = (putN T).length + (putN V).length + 1 by omega, List.drop_succ_cons, ← List.drop_drop, drop_len, drop_len]
theorem term_nat {T : Nat} (h : T ≤ 1000000) : termIn (T : Int) := ⟨by omega, by omega⟩
theorem take_vote (s : St) (T V : Nat) (hT : T ≤ 1000000) (hV : V ≤ 1000000) : takeS s (1 :: (putN T ++ putN V)) = fitV s T V := by
  obtain ⟨h1, h2, h3⟩ := num_two 1 T V hT hV []
  rw [List.append_nil] at h1 h2 h3
  rw [take_else s (by simp) (by rw [h1]) (by rw [h2]) (by rw [h1, h2]; exact ⟨term_nat hT, term_nat hV⟩), h1, h2, h3]
  simp
theorem take_entry (s : St) (T V : Nat) (hT : T ≤ 1000000) (hV : V ≤ 1000000) (hV1 : 1 ≤ V) (d : List Int) (hd : d.length ≤ 1000) : takeS s (2 :: (putN T ++ (putN V ++ d))) = fitE s T V d := by
  obtain ⟨h1, h2, h3⟩ := num_two 2 T V hT hV d
  rw [take_else s (by simp) (by rw [h1]) (by rw [h2]) (by rw [h1, h2]; exact ⟨term_nat hT, term_nat hV⟩), h1, h2, h3]
  simp only [List.getD_cons_zero]
  rw [if_neg (by decide), if_pos trivial, if_neg (by omega)]

/-- The payloads of a state's records. -/
def entP (r : Rec3) : List Int := 2 :: (putN r.t.toNat ++ (putN r.i.toNat ++ r.d))
theorem entsTo_stream (rl : List Rec3) : entsTo rl rl.length = stream (rl.map entP) := by
  unfold entsTo stream
  rw [List.take_length, List.map_map]
  rfl
theorem recP_log : ∀ (rest pre : List Rec3) (s : St) (a : Nat), s.base = 0 → s.log = pre → (∀ j, j < rest.length → recOK (rest.getD j zRec).t (rest.getD j zRec).i (rest.getD j zRec).d.length = true ∧ (rest.getD j zRec).i = ((pre.length + j : Nat) : Int) + 1) → pre.length + rest.length ≤ 100 →
    recP (rest.map entP) s a = ({ s with log := pre ++ rest }, a + (stream (rest.map entP)).length)
  | [], pre, s, a, hb, hl, _, _ => by
    simp only [List.map_nil, recP, List.append_nil, stream, List.flatten_nil, List.length_nil, Nat.add_zero]
    rw [← hl]
  | r :: rest, pre, s, a, hb, hl, hr, hn => by
    obtain ⟨h0, hi⟩ := hr 0 (by simp)
    simp only [List.getD_cons_zero, Nat.add_zero] at h0 hi
    obtain ⟨⟨T, hT, hT1⟩, ⟨I, hI, hI1, hI2⟩, hd⟩ := recOK_yes h0
    have hle : pre.length < 100 := by simp at hn; omega
    have ht : takeS s (entP r) = some { s with log := pre ++ [r] } := by
      unfold entP
      rw [hT, hI, Int.toNat_natCast, Int.toNat_natCast, take_entry s T I hT1 hI1 hI2 r.d hd]
      unfold fitE
      rw [hb, hl, if_neg (by omega), show ((I : Int) - 0 - 1).toNat = pre.length by omega, List.take_length]
      congr 3
      rw [← hT, ← hI]
    rw [List.map_cons, recP_some ht, recP_log rest (pre ++ [r]) { s with log := pre ++ [r] } _ hb rfl (fun j hj => ?_) (by simp at hn ⊢; omega), stream_cons, List.length_append]
    · simp [Nat.add_assoc]
    · have := hr (j + 1) (by simp; omega)
      simp only [List.getD_cons_succ] at this
      refine ⟨this.1, ?_⟩
      rw [this.2]
      simp
      omega
/-- A state whose records are written down is recovered. -/
theorem rec_wal (a : Wal5) (rl : List Rec3) (h : walOK a rl = true) (hl : (walB a rl).length ≤ 65536) : recA (walB a rl) = (⟨a.T, a.V, 0, 0, rl⟩, (walB a rl).length, 0) ∧ walA a rl = walB a rl ∧ walC a rl = 0 := by
  obtain ⟨⟨T, hT, hT1⟩, ⟨V, hV, hV1⟩, hn, hg⟩ := wal_yes h
  have hgo : ∀ j, j < rl.length → recOK (rl.getD j zRec).t (rl.getD j zRec).i (rl.getD j zRec).d.length = true ∧ (rl.getD j zRec).i = ((([] : List Rec3).length + j : Nat) : Int) + 1 := fun j hj => by
    have := goods_at hg hj
    unfold good at this
    simp only [Bool.and_eq_true, decide_eq_true_eq] at this
    exact ⟨this.1, by simpa using this.2⟩
  have hps : ∀ p ∈ ((1 :: (putN a.T.toNat ++ putN a.V.toNat)) :: rl.map entP), p.length ≤ 4096 := by
    intro p hp
    rcases List.mem_cons.1 hp with rfl | hp
    · have := pay_len T V hT1 hV1
      rw [hT, hV]
      simp
      omega
    · obtain ⟨r, hr, rfl⟩ := List.mem_map.1 hp
      obtain ⟨j, hj, rfl⟩ := List.getElem_of_mem hr
      have := (hgo j hj).1
      have e : rl.getD j zRec = rl[j] := by simp [List.getD_eq_getElem?_getD, hj]
      rw [e] at this
      obtain ⟨⟨T', hT', hT1'⟩, ⟨I', hI', hI1', _⟩, hd'⟩ := recOK_yes this
      have hh := pay_len T' I' hT1' hI1'
      unfold entP
      rw [hT', hI']
      simp
      omega
  have hB : walB a rl = stream ((1 :: (putN a.T.toNat ++ putN a.V.toNat)) :: rl.map entP) ++ [] := by
    rw [List.append_nil, stream_cons, ← entsTo_stream]
    rfl
  refine ⟨?_, by unfold walA; rw [if_pos h, if_pos hl], by unfold walC; rw [if_pos h, if_pos hl]⟩
  have hv : takeS zSt (1 :: (putN a.T.toNat ++ putN a.V.toNat)) = some ⟨a.T, a.V, 0, 0, []⟩ := by
    rw [hT, hV, Int.toNat_natCast, Int.toNat_natCast, take_vote zSt T V hT1 hV1]
    unfold fitV
    rw [if_neg (by simp [zSt])]
    rfl
  rw [hB] at hl ⊢
  rw [recA_stream _ hps [] nil_none hl, recP_some hv, recP_log rl [] ⟨a.T, a.V, 0, 0, []⟩ _ rfl rfl hgo (by simpa using hn)]
  rw [List.append_nil, stream_cons, List.length_append]
  simp
end Go.Proofs.Ytipcdioolafkpaa.streams

/- Contract of the laws' own comparison of two states of a log: states that read alike are the same. -/
namespace Go.Proofs.Ytipcdioolafkpaa.samewal
open Go.ChangeShapes Go.WideShapes Go.ChangeAt Go.RowKit
open Go.Proofs.Ytipcdioolafkpaa.bytes Go.Proofs.Ytipcdioolafkpaa.pile Go.Proofs.Ytipcdioolafkpaa.reader Go.Proofs.Ytipcdioolafkpaa.choice Go.Proofs.Ytipcdioolafkpaa.same Go.Proofs.Ytipcdioolafkpaa.recrows Go.Proofs.Ytipcdioolafkpaa.logcells Go.Proofs.Ytipcdioolafkpaa.walhelp
set_option linter.unusedVariables false

theorem same_below (w : World) (n : Nat) : Below w.heap.size w (w.drewN n) := ⟨rfl, rfl, rfl, Nat.le_refl _, fun _ _ => rfl⟩
set_option maxRecDepth 20000 in
set_option maxHeartbeats 2000000 in
theorem sameRecs_any (w : World) (a b : Value) (rl : List Rec3) (us vs : List Value) (ha : RdRecs w a rl us) (hb : RdRecs w b rl vs) :
    Calls Try.prog 55 #[a, b] w fun e w' => e = .returned (.bool true) ∧ ∃ n, w' = w.drewN n := by
  have HT : Hid (RdRecs w a rl us ∧ RdRecs w b rl vs) := ⟨ha, hb⟩
  obtain ⟨ao, ca, rfl, ha1, ha2, ha3⟩ := ha.row
  obtain ⟨bo, cb, rfl, hb1, hb2, hb3⟩ := hb.row
  unfold maxLen at ha2 hb2
  clear ha hb
  have hne : (((rl.length : Nat) : Int) != ((rl.length : Nat) : Int)) = false := by simp
  go_enter Try.func55, Try.ntmps55
  go_wp2
  go_loopw [5] (fun i wr => ∃ k m : Nat, k ≤ rl.length ∧ i = .int .i64 k ∧ wr = w.drewN m) (fun i _ => rl.length - (intOf i).toNat)
  case atStart => exact ⟨0, 0, by omega, rfl, rfl⟩
  case round =>
    obtain ⟨k, m, hk, rfl, rfl⟩ := hrel
    by_cases hlt : k < rl.length
    · obtain ⟨ab, aoff, rfl, hca⟩ := ha3 (by omega)
      obtain ⟨bb, boff, rfl, hcb⟩ := hb3 (by omega)
      obtain ⟨p0, p1, p2⟩ := hca k hlt
      obtain ⟨q0, q1, q2⟩ := hcb k hlt
      have hk1 : ∀ x, (convert 22 9 (us.getD k (.slice none 0 0))).run Try.prog (w.drewN x) = .ok (.string (strOf (rl.getD k zRec).d)) (w.drewN x) := fun x => run_str ((HT.out.1.each k hlt).below (same_below w x) (Nat.le_refl _))
      have hk2 : ∀ x, (convert 22 9 (vs.getD k (.slice none 0 0))).run Try.prog (w.drewN x) = .ok (.string (strOf (rl.getD k zRec).d)) (w.drewN x) := fun x => run_str ((HT.out.2.each k hlt).below (same_below w x) (Nat.le_refl _))
      clear hca hcb ha3 hb3
      generalize strOf (rl.getD k zRec).d = s at hk1 hk2
      generalize (rl.getD k zRec).t = ti at p0 q0
      generalize (rl.getD k zRec).i = ii at p1 q1
      have hti : (ti != ti) = false := by simp
      have hii : (ii != ii) = false := by simp
      generalize us.getD k (.slice none 0 0) = u at p2 hk1
      generalize vs.getD k (.slice none 0 0) = v at q2 hk2
      go_wp2
      go_quiet (fail)
      go_wp2
      go_roundw
      case rel => exact ⟨k + 1, _, by omega, by go_num, rfl⟩
      case measure => simp [intOf]; omega
    · go_wp2
      go_ret
      exact ⟨rfl, m, rfl⟩

set_option maxHeartbeats 2000000 in
theorem sameWal_any (w : World) (a : Wal5) (g1 g2 : Int) (u v : Value) (rl : List Rec3) (us vs : List Value) (hu : RdRecs w u rl us) (hv : RdRecs w v rl vs) :
    Calls Try.prog 30 #[.agg #[.int .i64 a.T, .int .i64 a.V, .int .i64 a.B, .int .i64 a.BT, u, .int .i64 g1], .agg #[.int .i64 a.T, .int .i64 a.V, .int .i64 a.B, .int .i64 a.BT, v, .int .i64 g2]] w fun e w' => e = .returned (.bool true) ∧ Below w.heap.size w w' := by
  obtain ⟨uo, uc, rfl, _⟩ := hu.row
  obtain ⟨vo, vc, rfl, _⟩ := hv.row
  have b1 : ∀ o1 o2, Below w.heap.size w ((w.alloc o1).alloc o2) := fun o1 o2 => ((Below.refl _ _).alloc (Nat.le_refl _) _).alloc (by simp) _
  have HC : Hid (∀ o1 o2, Calls Try.prog 55 #[.slice uo rl.length uc, .slice vo rl.length vc] ((w.alloc o1).alloc o2) fun e w' => e = .returned (.bool true) ∧ Below w.heap.size w w') := fun o1 o2 => by
    refine (sameRecs_any _ _ _ rl us vs (hu.below (b1 o1 o2) (Nat.le_refl _)) (hv.below (b1 o1 o2) (Nat.le_refl _))).mono ?_
    rintro e w' ⟨rfl, n, rfl⟩
    exact ⟨rfl, (b1 o1 o2).trans ((same_below _ n).mono (by simp; omega))⟩
  clear hu hv b1
  go_enter Try.func30, Try.ntmps30
  go_wp2_with fail
  refine (HC.out _ _).mono ?_
  rintro e w1 ⟨rfl, b2⟩
  have HB := hide b2
  clear b2
  go_wp2
  go_ret
  exact ⟨rfl, HB.out⟩
end Go.Proofs.Ytipcdioolafkpaa.samewal

/- A drawn state of a log is written down and recovered; any bytes are recovered as the document says: the law's own walk. -/
namespace Go.Proofs.Ytipcdioolafkpaa.wallaw
open Go.ChangeShapes Go.WideShapes Go.ChangeAt Go.RowKit
open Go.Proofs.Ytipcdioolafkpaa.bytes Go.Proofs.Ytipcdioolafkpaa.pile Go.Proofs.Ytipcdioolafkpaa.put Go.Proofs.Ytipcdioolafkpaa.crcs Go.Proofs.Ytipcdioolafkpaa.join Go.Proofs.Ytipcdioolafkpaa.frames Go.Proofs.Ytipcdioolafkpaa.get Go.Proofs.Ytipcdioolafkpaa.dec Go.Proofs.Ytipcdioolafkpaa.take Go.Proofs.Ytipcdioolafkpaa.one Go.Proofs.Ytipcdioolafkpaa.back Go.Proofs.Ytipcdioolafkpaa.parts Go.Proofs.Ytipcdioolafkpaa.votes Go.Proofs.Ytipcdioolafkpaa.pays Go.Proofs.Ytipcdioolafkpaa.rechelp Go.Proofs.Ytipcdioolafkpaa.recrows Go.Proofs.Ytipcdioolafkpaa.walhelp Go.Proofs.Ytipcdioolafkpaa.recov Go.Proofs.Ytipcdioolafkpaa.recovers Go.Proofs.Ytipcdioolafkpaa.recoveri Go.Proofs.Ytipcdioolafkpaa.recs Go.Proofs.Ytipcdioolafkpaa.entries Go.Proofs.Ytipcdioolafkpaa.walright Go.Proofs.Ytipcdioolafkpaa.walof Go.Proofs.Ytipcdioolafkpaa.logcells Go.Proofs.Ytipcdioolafkpaa.takesp Go.Proofs.Ytipcdioolafkpaa.recovers2 Go.Proofs.Ytipcdioolafkpaa.reclaw Go.Proofs.Ytipcdioolafkpaa.streams Go.Proofs.Ytipcdioolafkpaa.samewal
set_option linter.unusedVariables false

/-- What WalsOf answers. -/
def WalsE (w : World) (e : Ending) (w' : World) : Prop := ∃ (T V : Int) (o : Option Addr) (n c : Nat) (rl : List Rec3) (us : List Value), e = .returned (.agg #[.int .i64 T, .int .i64 V, .int .i64 0, .int .i64 0, .slice o n c, .int .i64 0]) ∧ (0 ≤ T ∧ T ≤ 8) ∧ (0 ≤ V ∧ V ≤ 3) ∧ rl.length ≤ 6 ∧ (∀ k, k < rl.length → (0 ≤ (rl.getD k zRec).t ∧ (rl.getD k zRec).t ≤ 3) ∧ (rl.getD k zRec).i = (k : Int) + 1 ∧ (rl.getD k zRec).d.length ≤ 5) ∧ LogR w' (.slice o n c) rl us ∧ Below w.heap.size w w'
theorem put_one {n : Nat} (h : n < 128) : (putN n).length = 1 := by rw [putN_lt h]; simp
theorem frame_short {xs : List Int} (h : xs.length ≤ 40) : (frameN xs).length ≤ 45 := by
  rw [frameN_length, put_one (by omega)]
  omega
theorem rec_short {rl : List Rec3} (hl : rl.length ≤ 6) (h : ∀ k, k < rl.length → (0 ≤ (rl.getD k zRec).t ∧ (rl.getD k zRec).t ≤ 3) ∧ (rl.getD k zRec).i = (k : Int) + 1 ∧ (rl.getD k zRec).d.length ≤ 5) : ∀ k, k ≤ rl.length → (entsTo rl k).length ≤ k * 45
  | 0, _ => by simp [entsTo]
  | k + 1, hk => by
    have ih := rec_short hl h k (by omega)
    obtain ⟨⟨h1, h2⟩, h3, h4⟩ := h k (by omega)
    rw [entsTo_succ (by omega), List.length_append]
    have : (entF (rl.getD k zRec)).length ≤ 45 := by
      unfold entF
      apply frame_short
      rw [List.length_cons, List.length_append, List.length_append, put_one (by omega), put_one (by omega)]
      omega
    omega
theorem wal_fits {T V : Int} {rl : List Rec3} (hT : 0 ≤ T ∧ T ≤ 8) (hV : 0 ≤ V ∧ V ≤ 3) (hl : rl.length ≤ 6) (h : ∀ k, k < rl.length → (0 ≤ (rl.getD k zRec).t ∧ (rl.getD k zRec).t ≤ 3) ∧ (rl.getD k zRec).i = (k : Int) + 1 ∧ (rl.getD k zRec).d.length ≤ 5) :
    recA (walA ⟨T, V, 0, 0, 0⟩ rl) = (⟨T, V, 0, 0, rl⟩, (walA ⟨T, V, 0, 0, 0⟩ rl).length, 0) ∧ walC ⟨T, V, 0, 0, 0⟩ rl = 0 := by
  have hok : walOK ⟨T, V, 0, 0, 0⟩ rl = true := by
    unfold walOK headOK
    simp only [Bool.and_eq_true, decide_eq_true_eq]
    refine ⟨⟨⟨⟨⟨inB_yes (by omega), inB_yes (by omega)⟩, trivial⟩, trivial⟩, by omega⟩, goods_yes (fun j hj => ?_)⟩
    obtain ⟨h1, h2, h3⟩ := h j hj
    unfold good recOK
    simp only [Bool.and_eq_true, decide_eq_true_eq]
    exact ⟨⟨⟨⟨inB_yes (by omega), inB_yes (by omega)⟩, by omega⟩, by omega⟩, h2⟩
  have hb : (walB ⟨T, V, 0, 0, 0⟩ rl).length ≤ 65536 := by
    show (frameN (1 :: (putN T.toNat ++ putN V.toNat)) ++ entsTo rl rl.length).length ≤ 65536
    rw [List.length_append]
    have h1 := rec_short hl h rl.length (Nat.le_refl _)
    have h2 : (frameN (1 :: (putN T.toNat ++ putN V.toNat))).length ≤ 45 := by
      apply frame_short
      rw [List.length_cons, List.length_append, put_one (by omega), put_one (by omega)]
      omega
    omega
  obtain ⟨r1, r2, r3⟩ := rec_wal ⟨T, V, 0, 0, 0⟩ rl hok hb
  rw [r2]
  exact ⟨r1, r3⟩

set_option maxRecDepth 20000 in
set_option maxHeartbeats 4000000 in
theorem walk0 (w : World) (ao0 : Option Addr) (cap0 : Nat) (xs0 : List Int) (h0 : RdA w (.slice ao0 xs0.length cap0) xs0) (ao1 : Option Addr) (cap1 : Nat) (xs1 : List Int) (h1 : RdA w (.slice ao1 xs1.length cap1) xs1)
    (HWals : ∀ wx, RdA wx (.slice ao0 xs0.length cap0) xs0 → Calls Try.prog 31 #[.slice ao0 xs0.length cap0] wx (WalsE wx)) :
    Calls Try.prog 8 #[.slice ao0 xs0.length cap0, .slice ao1 xs1.length cap1] w fun e w' => e = .returned (.bool true) ∧ Below w.heap.size w w' := by
  obtain ⟨_, hc01, hc02⟩ := le_cap h0.1
  obtain ⟨_, hc11, hc12⟩ := le_cap h1.1
  unfold maxLen at hc02 hc12
  by_cases hb0 : (1048576 : Int) < xs0.length
  · go_enter Try.func8, Try.ntmps8
    go_wp2
    go_ret
    exact ⟨rfl, Below.refl _ _⟩
  by_cases hb1 : (60000 : Int) < xs1.length
  · go_enter Try.func8, Try.ntmps8
    go_wp2
    go_ret
    exact ⟨rfl, Below.refl _ _⟩
  have HA := hide (HWals w h0)
  have H1 := hide h1
  clear HWals h0 h1
  have hlong : ¬ 65536 < xs1.length := by omega
  have HRc : Hid ((recA xs1).2.2 = 0) := by unfold recA; rw [if_neg hlong]; exact hide rfl
  go_enter Try.func8, Try.ntmps8
  go_wp2_with fail
  refine HA.out.mono ?_
  rintro e w1 ⟨T, V, o, n, c, rl, us, rfl, hT, hV, hl, hr, L1, B1⟩
  obtain ⟨hrec, hC⟩ := wal_fits hT hV hl hr
  obtain ⟨F, hF⟩ : ∃ F, F = walA ⟨T, V, 0, 0, 0⟩ rl := ⟨_, rfl⟩
  have hFl : F.length ≤ 65536 := by rw [hF]; exact walA_len _ _
  have HRec : Hid (recA F = (⟨T, V, 0, 0, rl⟩, F.length, 0)) := by rw [hF]; exact hrec
  have s1 := B1.size
  obtain ⟨w2, hw2⟩ : ∃ w2, w2 = w1.alloc (.cells #[.int .i64 T, .int .i64 V, .int .i64 0, .int .i64 0, .slice o n c, .int .i64 0] 52) := ⟨_, rfl⟩
  have b12 : Below w1.heap.size w1 w2 := by rw [hw2]; exact (Below.refl _ _).alloc (Nat.le_refl _) _
  have k2 : w2.heap[w1.heap.size]? = some (.cells #[.int .i64 T, .int .i64 V, .int .i64 0, .int .i64 0, .slice o n c, .int .i64 0] 52 (0, 0)) := by rw [hw2]; exact heap_alloc_new w1 _
  have s2 : w2.heap.size = w1.heap.size + 1 := by rw [hw2]; simp
  have hW := implWal w2 ⟨T, V, 0, 0, 0⟩ (.slice o n c) rl us (L1.below b12 (Nat.le_refl _)).rd
  rw [hC, ← hF] at hW
  rw [hw2] at hW
  clear hrec hC hF hT hV hl hr HA
  go_wp2_with fail
  refine hW.mono ?_
  rw [← hw2]
  rintro e w3 ⟨v3, rfl, O3, b3⟩
  have s3 := b3.size
  clear hW hw2
  obtain ⟨o3, c3, e3, _⟩ := O3.rd
  subst e3
  have HB := hide (recover_any w3 o3 c3 F (Own.rdA O3))
  rw [HRec.out] at HB
  go_wp2_with fail
  refine HB.out.mono ?_
  rintro e w4 ⟨lv4, us4, rfl, O4, b4⟩
  have s4 := b4.size
  obtain ⟨oB, cB, hlv4, _⟩ := O4.row
  subst hlv4
  clear HB O3
  obtain ⟨w5, hw5⟩ : ∃ w5, w5 = w4.alloc (.cells #[.int .i64 T, .int .i64 V, .int .i64 0, .int .i64 0, .slice oB rl.length cB, .int .i64 (F.length : Nat)] 52) := ⟨_, rfl⟩
  have b45 : Below w4.heap.size w4 w5 := by rw [hw5]; exact (Below.refl _ _).alloc (Nat.le_refl _) _
  have k5 : w5.heap[w4.heap.size]? = some (.cells #[.int .i64 T, .int .i64 V, .int .i64 0, .int .i64 0, .slice oB rl.length cB, .int .i64 (F.length : Nat)] 52 (0, 0)) := by rw [hw5]; exact heap_alloc_new w4 _
  have s5 : w5.heap.size = w4.heap.size + 1 := by rw [hw5]; simp
  have b25 : Below w2.heap.size w2 w5 := b3.trans ((b4.trans (b45.mono s4)).mono s3)
  have bw5 : Below w.heap.size w w5 := B1.trans ((b12.trans (b25.mono (by omega))).mono s1)
  have HN := recover_any w5 ao1 cap1 xs1 (H1.out.below bw5 (Nat.le_refl _))
  obtain ⟨R, hR⟩ : ∃ R, R = recA xs1 := ⟨_, rfl⟩
  have HRz : Hid (R.2.2 = 0) := by rw [hR]; exact HRc
  rw [← hR, hw5] at HN
  go_wp2_with fail
  refine HN.mono ?_
  rw [← hw5]
  rintro e w6 ⟨lv6, us6, rfl, O6, b6⟩
  have s6 := b6.size
  obtain ⟨oN, cN, hlv6, _⟩ := O6.row
  subst hlv6
  clear HN hw5
  obtain ⟨w7, hw7⟩ : ∃ w7, w7 = w6.alloc (.cells #[.int .i64 R.1.term, .int .i64 R.1.vote, .int .i64 R.1.base, .int .i64 R.1.bterm, .slice oN R.1.log.length cN, .int .i64 (R.2.1 : Nat)] 52) := ⟨_, rfl⟩
  have b67 : Below w6.heap.size w6 w7 := by rw [hw7]; exact (Below.refl _ _).alloc (Nat.le_refl _) _
  have k7 : w7.heap[w6.heap.size]? = some (.cells #[.int .i64 R.1.term, .int .i64 R.1.vote, .int .i64 R.1.base, .int .i64 R.1.bterm, .slice oN R.1.log.length cN, .int .i64 (R.2.1 : Nat)] 52 (0, 0)) := by rw [hw7]; exact heap_alloc_new w6 _
  have s7 : w7.heap.size = w6.heap.size + 1 := by rw [hw7]; simp
  have b57 : Below w5.heap.size w5 w7 := b6.trans (b67.mono s6)
  have bw7 : Below w.heap.size w w7 := bw5.trans (b57.mono bw5.size)
  have HS := specRecover w7 ao1 cap1 xs1 (H1.out.below bw7 (Nat.le_refl _))
  rw [← hR, hw7] at HS
  clear hR
  go_wp2_with fail
  refine HS.mono ?_
  rw [← hw7]
  rintro e w8 ⟨oW, nW, cW, us8, rfl, L8, b8⟩
  have s8 := b8.size
  clear HS hw7
  obtain ⟨w9, hw9⟩ : ∃ w9, w9 = w8.alloc (.cells #[.int .i64 R.1.term, .int .i64 R.1.vote, .int .i64 R.1.base, .int .i64 R.1.bterm, .slice oW nW cW, .int .i64 (R.2.1 : Nat)] 52) := ⟨_, rfl⟩
  have b89 : Below w8.heap.size w8 w9 := by rw [hw9]; exact (Below.refl _ _).alloc (Nat.le_refl _) _
  have k9 : w9.heap[w8.heap.size]? = some (.cells #[.int .i64 R.1.term, .int .i64 R.1.vote, .int .i64 R.1.base, .int .i64 R.1.bterm, .slice oW nW cW, .int .i64 (R.2.1 : Nat)] 52 (0, 0)) := by rw [hw9]; exact heap_alloc_new w8 _
  have s9 : w9.heap.size = w8.heap.size + 1 := by rw [hw9]; simp
  have b79 : Below w7.heap.size w7 w9 := b8.trans (b89.mono s8)
  have b59 : Below w5.heap.size w5 w9 := b57.trans (b79.mono (by omega))
  have b29 : Below w2.heap.size w2 w9 := b25.trans (b59.mono (by omega))
  have bw9 : Below w.heap.size w w9 := bw7.trans (b79.mono bw7.size)
  have k29 : w9.heap[w1.heap.size]? = some (.cells #[.int .i64 T, .int .i64 V, .int .i64 0, .int .i64 0, .slice o n c, .int .i64 0] 52 (0, 0)) := (b29.block _ (by omega)).trans k2
  have k59 : w9.heap[w4.heap.size]? = some (.cells #[.int .i64 T, .int .i64 V, .int .i64 0, .int .i64 0, .slice oB rl.length cB, .int .i64 (F.length : Nat)] 52 (0, 0)) := (b59.block _ (by omega)).trans k5
  have k79 : w9.heap[w6.heap.size]? = some (.cells #[.int .i64 R.1.term, .int .i64 R.1.vote, .int .i64 R.1.base, .int .i64 R.1.bterm, .slice oN R.1.log.length cN, .int .i64 (R.2.1 : Nat)] 52 (0, 0)) := (b79.block _ (by omega)).trans k7
  have L19 : LogR w9 (.slice o n c) rl us := L1.below (b12.trans (b29.mono (by omega))) (Nat.le_refl _)
  have O49 : OwnRecs w9 w3.heap.size (.slice oB rl.length cB) rl us4 := O4.below (b45.trans (b59.mono (by omega))) (Nat.le_refl _)
  have O69 : OwnRecs w9 w5.heap.size (.slice oN R.1.log.length cN) R.1.log us6 := O6.below (b67.trans (b79.mono (by omega))) (Nat.le_refl _)
  have L89 : LogR w9 (.slice oW nW cW) R.1.log us8 := L8.below b89 (Nat.le_refl _)
  have E1 := sameWal_any w9 ⟨T, V, 0, 0, 0⟩ (F.length : Nat) 0 _ _ rl us4 us O49.rd L19.rd
  have hz := HRz.out
  have HK : Hid (∀ wx, Below w9.heap.size w9 wx → (wx.cell? ⟨w4.heap.size, 0, none⟩ = some (.int .i64 T) ∧ wx.cell? ⟨w4.heap.size, 1, none⟩ = some (.int .i64 V) ∧ wx.cell? ⟨w4.heap.size, 2, none⟩ = some (.int .i64 0) ∧ wx.cell? ⟨w4.heap.size, 3, none⟩ = some (.int .i64 0) ∧ wx.cell? ⟨w4.heap.size, 4, none⟩ = some (.slice oB rl.length cB) ∧ wx.cell? ⟨w4.heap.size, 5, none⟩ = some (.int .i64 (F.length : Nat))) ∧ (wx.cell? ⟨w6.heap.size, 0, none⟩ = some (.int .i64 R.1.term) ∧ wx.cell? ⟨w6.heap.size, 1, none⟩ = some (.int .i64 R.1.vote) ∧ wx.cell? ⟨w6.heap.size, 2, none⟩ = some (.int .i64 R.1.base) ∧ wx.cell? ⟨w6.heap.size, 3, none⟩ = some (.int .i64 R.1.bterm) ∧ wx.cell? ⟨w6.heap.size, 4, none⟩ = some (.slice oN R.1.log.length cN) ∧ wx.cell? ⟨w6.heap.size, 5, none⟩ = some (.int .i64 (R.2.1 : Nat))) ∧ (wx.cell? ⟨w8.heap.size, 0, none⟩ = some (.int .i64 R.1.term) ∧ wx.cell? ⟨w8.heap.size, 1, none⟩ = some (.int .i64 R.1.vote) ∧ wx.cell? ⟨w8.heap.size, 2, none⟩ = some (.int .i64 R.1.base) ∧ wx.cell? ⟨w8.heap.size, 3, none⟩ = some (.int .i64 R.1.bterm) ∧ wx.cell? ⟨w8.heap.size, 4, none⟩ = some (.slice oW nW cW) ∧ wx.cell? ⟨w8.heap.size, 5, none⟩ = some (.int .i64 (R.2.1 : Nat)))) := fun wx hb => by
    have q1 := (hb.block _ (by omega)).trans k59
    have q2 := (hb.block _ (by omega)).trans k79
    have q3 := (hb.block _ (by omega)).trans k9
    exact ⟨⟨cell_of q1 rfl, cell_of q1 rfl, cell_of q1 rfl, cell_of q1 rfl, cell_of q1 rfl, cell_of q1 rfl⟩, ⟨cell_of q2 rfl, cell_of q2 rfl, cell_of q2 rfl, cell_of q2 rfl, cell_of q2 rfl, cell_of q2 rfl⟩, cell_of q3 rfl, cell_of q3 rfl, cell_of q3 rfl, cell_of q3 rfl, cell_of q3 rfl, cell_of q3 rfl⟩
  have p0 : w9.cell? ⟨w1.heap.size, 0, none⟩ = some (.int .i64 T) := cell_of k29 rfl
  have p1 : w9.cell? ⟨w1.heap.size, 1, none⟩ = some (.int .i64 V) := cell_of k29 rfl
  have p2 : w9.cell? ⟨w1.heap.size, 2, none⟩ = some (.int .i64 0) := cell_of k29 rfl
  have p3 : w9.cell? ⟨w1.heap.size, 3, none⟩ = some (.int .i64 0) := cell_of k29 rfl
  have p4 : w9.cell? ⟨w1.heap.size, 4, none⟩ = some (.slice o n c) := cell_of k29 rfl
  have p5 : w9.cell? ⟨w1.heap.size, 5, none⟩ = some (.int .i64 0) := cell_of k29 rfl
  have q0 : w9.cell? ⟨w4.heap.size, 0, none⟩ = some (.int .i64 T) := cell_of k59 rfl
  have q1 : w9.cell? ⟨w4.heap.size, 1, none⟩ = some (.int .i64 V) := cell_of k59 rfl
  have q2 : w9.cell? ⟨w4.heap.size, 2, none⟩ = some (.int .i64 0) := cell_of k59 rfl
  have q3 : w9.cell? ⟨w4.heap.size, 3, none⟩ = some (.int .i64 0) := cell_of k59 rfl
  have q4 : w9.cell? ⟨w4.heap.size, 4, none⟩ = some (.slice oB rl.length cB) := cell_of k59 rfl
  have q5 : w9.cell? ⟨w4.heap.size, 5, none⟩ = some (.int .i64 (F.length : Nat)) := cell_of k59 rfl
  rw [hw9] at E1 p0 q0 p1 q1 p2 q2 p3 q3 p4 q4 p5 q5
  rw [hz]
  go_wp2_with fail
  refine E1.mono ?_
  rw [← hw9]
  rintro e w10 ⟨rfl, b10⟩
  have s10 := b10.size
  obtain ⟨⟨x0, x1, x2, x3, x4, x5⟩, ⟨y0, y1, y2, y3, y4, y5⟩, z0, z1, z2, z3, z4, z5⟩ := HK.out w10 b10
  have E2 := sameWal_any w10 ⟨R.1.term, R.1.vote, R.1.base, R.1.bterm, 0⟩ (R.2.1 : Nat) (R.2.1 : Nat) _ _ R.1.log us6 us8 (O69.below b10 (Nat.le_refl _)).rd (L89.below b10 (Nat.le_refl _)).rd
  clear E1 hw9 p0 q0 p1 q1 p2 q2 p3 q3 p4 q4 p5 q5
  go_wp2_with fail
  refine E2.mono ?_
  rintro e w11 ⟨rfl, b11⟩
  have BF := hide (bw9.trans ((b10.trans (b11.mono s10)).mono bw9.size))
  obtain ⟨_, ⟨y10, y11, y12, y13, y14, y15⟩, z10, z11, z12, z13, z14, z15⟩ := HK.out w11 (b10.trans (b11.mono s10))
  clear E2
  go_wp2
  go_ret
  exact ⟨rfl, BF.out⟩

end Go.Proofs.Ytipcdioolafkpaa.wallaw

/- A drawn state of a log: what WalsOf answers. -/
namespace Go.Proofs.Ytipcdioolafkpaa.walsof
open Go.ChangeShapes Go.WideShapes Go.ChangeAt Go.RowKit
open Go.Proofs.Ytipcdioolafkpaa.bytes Go.Proofs.Ytipcdioolafkpaa.put Go.Proofs.Ytipcdioolafkpaa.pile Go.Proofs.Ytipcdioolafkpaa.join Go.Proofs.Ytipcdioolafkpaa.frames Go.Proofs.Ytipcdioolafkpaa.reader Go.Proofs.Ytipcdioolafkpaa.one Go.Proofs.Ytipcdioolafkpaa.many Go.Proofs.Ytipcdioolafkpaa.draws Go.Proofs.Ytipcdioolafkpaa.payloads Go.Proofs.Ytipcdioolafkpaa.bytefn
open Go.Proofs.Ytipcdioolafkpaa.drawsfn Go.Proofs.Ytipcdioolafkpaa.drawsex Go.Proofs.Ytipcdioolafkpaa.recrows Go.Proofs.Ytipcdioolafkpaa.rechelp Go.Proofs.Ytipcdioolafkpaa.pays Go.Proofs.Ytipcdioolafkpaa.recov Go.Proofs.Ytipcdioolafkpaa.fits Go.Proofs.Ytipcdioolafkpaa.goesalong Go.Proofs.Ytipcdioolafkpaa.logcells Go.Proofs.Ytipcdioolafkpaa.recoveri Go.Proofs.Ytipcdioolafkpaa.takesp Go.Proofs.Ytipcdioolafkpaa.waldraw Go.Proofs.Ytipcdioolafkpaa.wallaw
set_option linter.unusedVariables false

set_option maxRecDepth 20000 in
set_option maxHeartbeats 4000000 in
theorem wals_any (w : World) (ao : Option Addr) (cap : Nat) (xs : List Int) (h : RdA w (.slice ao xs.length cap) xs) :
    Calls Try.prog 31 #[.slice ao xs.length cap] w (WalsE w) := by
  obtain ⟨w0, hw0⟩ : ∃ w0, w0 = w.alloc (.cells #[.int .i64 0, .int .i64 0, .int .i64 0, .int .i64 0, .slice none 0 0, .int .i64 0] 52) := ⟨_, rfl⟩
  have b0 : Below w.heap.size w w0 := by rw [hw0]; exact (Below.refl _ _).alloc (Nat.le_refl _) _
  have k0 : w0.heap[w.heap.size]? = some (.cells #[.int .i64 0, .int .i64 0, .int .i64 0, .int .i64 0, .slice none 0 0, .int .i64 0] 52 (0, 0)) := by rw [hw0]; exact heap_alloc_new w _
  have s0 : w0.heap.size = w.heap.size + 1 := by rw [hw0]; simp
  have HS := source_any w0 ao cap xs (h.below b0 (Nat.le_refl _))
  rw [s0] at HS
  rw [hw0] at HS
  have HSh := hide HS
  clear h HS
  go_enter Try.func31, Try.ntmps31
  go_wp2_with fail
  refine HSh.out.mono ?_
  rw [← hw0]
  rintro e w1 ⟨rfl, hd1, B1, sd1, S1⟩
  have HW := hide (wal_any w1 _ ao cap xs sd1 S1)
  have k1 : w1.heap[w.heap.size]? = some (.cells #[.int .i64 0, .int .i64 0, .int .i64 0, .int .i64 0, .slice none 0 0, .int .i64 0] 52 (0, 0)) := (B1.block _ (by omega)).trans k0
  clear HSh hw0 S1
  go_wp2_with fail
  refine HW.out.mono ?_
  rintro e w2 ⟨T, V, o, n, c, rl, us, rfl, hT, hV, hl, hr, L2, G2, F2⟩
  have k2 : w2.heap[w.heap.size]? = some (.cells #[.int .i64 0, .int .i64 0, .int .i64 0, .int .i64 0, .slice none 0 0, .int .i64 0] 52 (0, 0)) := (G2.block _ (by omega) (by simp)).trans k1
  have B2 : Below w.heap.size w w2 := (b0.trans (B1.mono (by omega))).grown G2 (by have := B1.size; omega) (fun k hk => by simp only [Option.some.injEq] at hk; omega)
  have HF := hide (And.intro hr (And.intro L2 (And.intro B2 (F2 w.heap.size (by have := B1.size; omega)))))
  have HK := hide k2
  have fz := frozen_of k2
  have e0 : w2.cell? ⟨w.heap.size, 0, none⟩ = some (.int .i64 0) := cell_of k2 rfl
  have e1 : w2.cell? ⟨w.heap.size, 1, none⟩ = some (.int .i64 0) := cell_of k2 rfl
  have e2 : w2.cell? ⟨w.heap.size, 2, none⟩ = some (.int .i64 0) := cell_of k2 rfl
  have e3 : w2.cell? ⟨w.heap.size, 3, none⟩ = some (.int .i64 0) := cell_of k2 rfl
  have e4 : w2.cell? ⟨w.heap.size, 4, none⟩ = some (.slice none 0 0) := cell_of k2 rfl
  have e5 : w2.cell? ⟨w.heap.size, 5, none⟩ = some (.int .i64 0) := cell_of k2 rfl
  clear HW k0 k1 k2 b0 B1 G2 F2 L2 B2 hr
  go_wp2
  have HS6 := hide (six_sets HK.out (.int .i64 T) (.int .i64 V) (.int .i64 0) (.int .i64 0) (.slice o n c) (.int .i64 0))
  generalize ((((((w2.setCell ⟨w.heap.size, 0, none⟩ (.int .i64 T)).setCell ⟨w.heap.size, 1, none⟩ (.int .i64 V)).setCell ⟨w.heap.size, 2, none⟩ (.int .i64 0)).setCell ⟨w.heap.size, 3, none⟩ (.int .i64 0)).setCell ⟨w.heap.size, 4, none⟩ (.slice o n c)).setCell ⟨w.heap.size, 5, none⟩ (.int .i64 0)) = W6 at HS6 ⊢
  have g0 : W6.cell? ⟨w.heap.size, 0, none⟩ = some (.int .i64 T) := cell_of HS6.out.1 rfl
  have g1 : W6.cell? ⟨w.heap.size, 1, none⟩ = some (.int .i64 V) := cell_of HS6.out.1 rfl
  have g2 : W6.cell? ⟨w.heap.size, 2, none⟩ = some (.int .i64 0) := cell_of HS6.out.1 rfl
  have g3 : W6.cell? ⟨w.heap.size, 3, none⟩ = some (.int .i64 0) := cell_of HS6.out.1 rfl
  have g4 : W6.cell? ⟨w.heap.size, 4, none⟩ = some (.slice o n c) := cell_of HS6.out.1 rfl
  have g5 : W6.cell? ⟨w.heap.size, 5, none⟩ = some (.int .i64 0) := cell_of HS6.out.1 rfl
  exact bodyPost_ret (v := .agg #[.int .i64 T, .int .i64 V, .int .i64 0, .int .i64 0, .slice o n c, .int .i64 0]) (by simp [results, Try.results31, go_sem, g0, g1, g2, g3, g4, g5]) rfl ⟨T, V, o, n, c, rl, us, rfl, hT, hV, hl, fun k hk => HF.out.1 k hk, HF.out.2.1.grown HS6.out.2 HF.out.2.2.2, HF.out.2.2.1.grown HS6.out.2 (by have := HF.out.2.2.1.size; omega) (fun k hk => by simp only [Option.some.injEq] at hk; omega)⟩
end Go.Proofs.Ytipcdioolafkpaa.walsof

namespace Go.Proofs.Ytipcdioolafkpaa.fnWal
open Go.ChangeShapes Go.WideShapes Go.ChangeAt Go.RowKit
open Go.ChangeMaps (open_string shut_string)
open Go.Proofs.Ytipcdioolafkpaa.bytes Go.Proofs.Ytipcdioolafkpaa.pile Go.Proofs.Ytipcdioolafkpaa.wallaw Go.Proofs.Ytipcdioolafkpaa.walsof
set_option linter.unusedVariables false

theorem own : ownKnob Try.prog.godebug = none := by kernel_rfl
theorem laidOut : laidOutB Try.prog = true := by kernel_rfl

/-- WHAT THE WALK IS TOLD OF A SLICE OF INTEGERS THAT CAME IN: it is nil; or it leads to a row of 'cap' cells, the numbers 'zs' (the first 'len' are its elements, the rest its spare room), each fitting its kind. -/
def IsRow (k : IntKind) (w : World) (a : Option Addr) (len cap : Nat) (zs : List Int) : Prop :=
  (a = none ∧ len = 0 ∧ cap = 0 ∧ zs = []) ∨
  ∃ x, a = some x ∧ len ≤ cap ∧ cap ≤ maxLen ∧ zs.length = cap ∧ (∀ i, i < zs.length → w.cell? (x.add i) = some (.int k (zs.getD i 0))) ∧ ∀ n ∈ zs, (Lit.int k n).wf = true

theorem rd_of_row {w : World} {a : Option Addr} {len cap : Nat} {zs : List Int} (h : IsRow .u8 w a len cap zs) : ∃ xs : List Int, Rd w (.slice a len cap) xs ∧ xs.length = len := by
  rcases h with ⟨rfl, rfl, rfl, rfl⟩ | ⟨x, rfl, hl, hm, hz, hcell, hwz⟩
  · exact ⟨[], ⟨none, 0, rfl, by simp, by simp [maxLen], by simp, by simp⟩, rfl⟩
  · have hlen : (zs.take len).length = len := by simp; omega
    refine ⟨zs.take len, ⟨some x, cap, by rw [hlen], by omega, hm, ?_, fun hp => ?_⟩, hlen⟩
    · intro y hy
      have := hwz y (List.mem_of_mem_take hy)
      simpa [Lit.wf, IntKind.min, IntKind.max, IntKind.signed, IntKind.bits] using this
    · obtain ⟨b, off, spot⟩ := x
      have hc := hcell 0 (by omega)
      have hspot : spot = none := by simpa [Addr.add] using World.cell?_spot hc
      subst hspot
      refine ⟨b, off, rfl, fun i hi => ?_⟩
      have := hcell i (by omega)
      have hadd : (⟨b, off, none⟩ : Addr).add i = ⟨b, off + i, none⟩ := by
        unfold Addr.add
        split
        · rename_i h; subst h; rfl
        · rfl
      rw [hadd] at this
      rw [this]
      have hi' : i < len := by omega
      simp [List.getD_eq_getElem?_getD, hi']

theorem le_max_of {w : World} {v : Value} {xs : List Int} (h : Rd w v xs) : xs.length ≤ maxLen := by
  obtain ⟨ao, cap, _, h1, h2, _⟩ := h
  omega

theorem rdA_of_row {w : World} {a : Option Addr} {len cap : Nat} {zs : List Int} (h : IsRow .u8 w a len cap zs) : ∃ xs : List Int, RdA w (.slice a len cap) xs ∧ xs.length = len := by
  obtain ⟨xs, hr, hl⟩ := rd_of_row h
  refine ⟨xs, ⟨hr, fun n c e => ?_⟩, hl⟩
  simp only [Value.slice.injEq] at e
  obtain ⟨rfl, rfl, rfl⟩ := e
  rcases h with ⟨_, rfl, rfl, _⟩ | ⟨x, hx, _⟩
  · rfl
  · simp at hx

set_option maxHeartbeats 1000000 in
theorem walk (a0 : Option Addr) (len0 cap0 : Nat) (z0 : List Int) (a1 : Option Addr) (len1 cap1 : Nat) (z1 : List Int) (w : World) (w0 : IsRow .u8 w a0 len0 cap0 z0) (w1 : IsRow .u8 w a1 len1 cap1 z1) :
    Calls Try.prog 8 #[.slice a0 len0 cap0, .slice a1 len1 cap1] w fun e w' => e = .returned (.bool true) ∧ Below w.heap.size w w' := by
  obtain ⟨xs, HR, hlen⟩ : ∃ xs : List Int, RdA w (.slice a0 len0 cap0) xs ∧ xs.length = len0 := rdA_of_row w0
  obtain ⟨ms, HM, hlen2⟩ : ∃ ms : List Int, RdA w (.slice a1 len1 cap1) ms ∧ ms.length = len1 := rdA_of_row w1
  clear w0 w1
  subst hlen
  subst hlen2
  exact walk0 w a0 cap0 xs HR a1 cap1 ms HM (fun wx h => wals_any wx a0 cap0 xs h)

set_option maxRecDepth 100000 in
theorem lifted (os : Os) (started : os.Started) (H : Type) (enc : TypeId × Value → H) :
    ReturnsInHanded {} Try.checked os 8 .any (Rows.fnWalSpec.pre6 enc Try.prog Try.f8 Rows.fnWalRow.domain false) (Rows.fnWalSpec.post enc Try.prog Try.f8 false true false false) := by
  refine returnsInHanded_of_change (C := Try.checked) own started (by kernel_rfl) Try.func8
    (ChangeSpec.witness6 (enc := enc) (C := Try.checked) false ⟨#[], #[.slice none 0 0, .slice none 0 0], []⟩ 8 (by kernel_rfl) (by kernel_rfl) (by kernel_rfl) (by kernel_rfl)) ?_
  intro W base args ds gs before hval0 hW hcnd _
  have hval : ∀ (j : Nat) t v, Try.f8.params[j]? = some t → args[j]? = some v → Value.okWide Try.prog W .any base t v := hval0
  have hW' := hW
  obtain ⟨p, q, hA0, hV, rfl, hfz, hnd⟩ := hW
  have hA : DataW.TrodAll enc Try.prog W 0 (fun _ => true) true Try.f8.params.toList args.toList ds p := hA0
  rw [Try.params8] at hA hval
  obtain ⟨v0, vs0, d0, ds0, p0, q0, hargs, rfl, rfl, h0, r0⟩ := trodAll_cons hA
  obtain ⟨v1, vs1, d1, ds1, p1, q1, rfl, rfl, rfl, h1, r1⟩ := trodAll_cons r0
  obtain ⟨rfl, rfl, rfl⟩ := trodAll_nil r1
  obtain rfl : args = #[v0, v1] := by cases args; simp_all
  obtain ⟨rfl, rfl⟩ := trodVars_none hV
  obtain ⟨a0, len0, cap0, rfl⟩ := okWide_slice Try.underlying22 (hval 0 22 v0 rfl rfl)
  have k0 := h0
  have lt0 : ∀ x ∈ p0, x.block < W.heap.size := by obtain ⟨m, hm⟩ := k0; exact DataW.trod_lt m _ _ _ hm
  obtain ⟨z0, w0⟩ : ∃ zs, IsRow .u8 W a0 len0 cap0 zs := by
    obtain ⟨fuel, hf⟩ := h0
    rcases open_ints Try.underlying22 Try.underlying5 (by kernel_rfl) hf with ⟨hcs, _⟩ | ⟨x, l, c, zs, hcs, _, hl, hm, hz, _, hcell, hwz⟩
    · simp [Value.cells] at hcs
      obtain ⟨rfl, rfl, rfl⟩ := hcs
      exact ⟨[], .inl ⟨rfl, rfl, rfl, rfl⟩⟩
    · simp [Value.cells] at hcs
      obtain ⟨rfl, rfl, rfl⟩ := hcs
      exact ⟨zs, .inr ⟨_, rfl, hl, hm, by simpa using hz, hcell, hwz⟩⟩
  obtain ⟨a1, len1, cap1, rfl⟩ := okWide_slice Try.underlying22 (hval 1 22 v1 rfl rfl)
  have k1 := h1
  have lt1 : ∀ x ∈ p1, x.block < W.heap.size := by obtain ⟨m, hm⟩ := k1; exact DataW.trod_lt m _ _ _ hm
  obtain ⟨z1, w1⟩ : ∃ zs, IsRow .u8 W a1 len1 cap1 zs := by
    obtain ⟨fuel, hf⟩ := h1
    rcases open_ints Try.underlying22 Try.underlying5 (by kernel_rfl) hf with ⟨hcs, _⟩ | ⟨x, l, c, zs, hcs, _, hl, hm, hz, _, hcell, hwz⟩
    · simp [Value.cells] at hcs
      obtain ⟨rfl, rfl, rfl⟩ := hcs
      exact ⟨[], .inl ⟨rfl, rfl, rfl, rfl⟩⟩
    · simp [Value.cells] at hcs
      obtain ⟨rfl, rfl, rfl⟩ := hcs
      exact ⟨zs, .inr ⟨_, rfl, hl, hm, by simpa using hz, hcell, hwz⟩⟩
  clear hA0 hval0
  refine (walk a0 len0 cap0 z0 a1 len1 cap1 z1 W w0 w1).mono fun e W' ⟨he, bel⟩ => ?_
  subst he
  exact ⟨_, rfl, _, _, _, [], _, [], hW', trodAll_mk1 (shut_bool Try.underlying4 _), (trodAll_cons_mk (Below.trod laidOut (by kernel_rfl) (of_decide_eq_true (by kernel_rfl)) k0 bel lt0) (trodAll_cons_mk (Below.trod laidOut (by kernel_rfl) (of_decide_eq_true (by kernel_rfl)) k1 bel lt1) trodAll_mk0)), rfl, bel.frame _, fun h => by cases h⟩

theorem over : Rows.fnWalRow.holds Try.pinned (OpenSpec.ofChange Rows.fnWalSpec) :=
  OpenClaim.holds_of_wide 8 Try.f8 rfl rfl rfl rfl rfl rfl rfl ⟨rfl, rfl, rfl, rfl, rfl⟩ rfl rfl rfl rfl rfl (by kernel_rfl) Try.func8 (by kernel_rfl)
    (of_decide_eq_true (by kernel_rfl)) (by unfold Func.isWrapper; first | (rw [if_pos (by decide +kernel)]; kernel_rfl) | (rw [if_neg (by decide +kernel)]; exact ⟨rfl, rfl⟩))
    (fun os started H enc _ => lifted os started H enc)

/-- ████ THE STATEMENT ████ -/
theorem proved : Rows.FnWalSaid := over
#print axioms proved
end Go.Proofs.Ytipcdioolafkpaa.fnWal

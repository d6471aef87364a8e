/- Records in frames are recovered: of numbers alone. -/
import Derived.Test.YtipcdioolafkpaaRecLaw
import Derived.Test.YtipcdioolafkpaaWalOfs
import Derived.Test.YtipcdioolafkpaaParts
namespace Go.Proofs.Ytipcdioolafkpaa.streams
open Go.ChangeShapes Go.WideShapes Go.ChangeAt Go.RowKit
open Go.Proofs.Ytipcdioolafkpaa.bytes Go.Proofs.Ytipcdioolafkpaa.pile Go.Proofs.Ytipcdioolafkpaa.put Go.Proofs.Ytipcdioolafkpaa.crcs Go.Proofs.Ytipcdioolafkpaa.join Go.Proofs.Ytipcdioolafkpaa.frames Go.Proofs.Ytipcdioolafkpaa.get Go.Proofs.Ytipcdioolafkpaa.dec Go.Proofs.Ytipcdioolafkpaa.take Go.Proofs.Ytipcdioolafkpaa.one Go.Proofs.Ytipcdioolafkpaa.back Go.Proofs.Ytipcdioolafkpaa.parts Go.Proofs.Ytipcdioolafkpaa.votes Go.Proofs.Ytipcdioolafkpaa.pays Go.Proofs.Ytipcdioolafkpaa.rechelp Go.Proofs.Ytipcdioolafkpaa.recrows Go.Proofs.Ytipcdioolafkpaa.walhelp Go.Proofs.Ytipcdioolafkpaa.recov Go.Proofs.Ytipcdioolafkpaa.readrecord Go.Proofs.Ytipcdioolafkpaa.goesalong Go.Proofs.Ytipcdioolafkpaa.recovers Go.Proofs.Ytipcdioolafkpaa.recoveri Go.Proofs.Ytipcdioolafkpaa.specs Go.Proofs.Ytipcdioolafkpaa.recs Go.Proofs.Ytipcdioolafkpaa.entries Go.Proofs.Ytipcdioolafkpaa.walright Go.Proofs.Ytipcdioolafkpaa.walof Go.Proofs.Ytipcdioolafkpaa.recovers2 Go.Proofs.Ytipcdioolafkpaa.reclaw
set_option linter.unusedVariables false

/-- Payloads are done one behind the other. -/
def recP : List (List Int) → St → Nat → St × Nat
  | [], s, a => (s, a)
  | p :: ps, s, a => match takeS s p with
    | none => (s, a)
    | some s' => recP ps s' (a + (frameN p).length)
theorem recP_none {p : List Int} {ps : List (List Int)} {s : St} {a : Nat} (h : takeS s p = none) : recP (p :: ps) s a = (s, a) := by rw [recP, h]
theorem recP_some {p : List Int} {ps : List (List Int)} {s s' : St} {a : Nat} (h : takeS s p = some s') : recP (p :: ps) s a = recP ps s' (a + (frameN p).length) := by rw [recP, h]
/-- Frames, and behind them what is none. -/
theorem rec_stream (xs tail : List Int) (ht : (frameAt tail).1 ≠ -1) : ∀ (ps : List (List Int)) (f : Nat) (s : St) (a : Nat), (∀ p ∈ ps, p.length ≤ 4096) → xs.drop a = stream ps ++ tail → xs.length - a < f → a ≤ xs.length → recL xs f s a = recP ps s a
  | [], f, s, a, _, hd, hf, ha => by
    obtain ⟨f', rfl⟩ : ∃ f', f = f' + 1 := ⟨f - 1, by omega⟩
    rw [recL_none (by rw [hd]; simpa [stream] using ht), recP]
  | p :: ps, f, s, a, hp, hd, hf, ha => by
    obtain ⟨f', rfl⟩ : ∃ f', f = f' + 1 := ⟨f - 1, by omega⟩
    have hpl := hp p (by simp)
    have hpos := frameN_pos p
    rw [stream_cons, List.append_assoc] at hd
    have hw := frameAt_whole p (stream ps ++ tail) hpl
    have hlen : xs.length - a = (frameN p).length + (stream ps ++ tail).length := by
      have := congrArg List.length hd
      rw [List.length_drop, List.length_append] at this
      exact this
    cases hk : takeS s p with
    | none => rw [recL_stop (by rw [hd, hw]) (by rw [hd, hw]; exact hk), recP_none hk]
    | some s' =>
      rw [recL_some (by rw [hd, hw]) (by rw [hd, hw]; exact hk), recP_some hk, hd, hw]
      refine rec_stream xs tail ht ps f' s' _ (fun q hq => hp q (by simp [hq])) ?_ (by simp only; omega) (by simp only; omega)
      simp only
      rw [← List.drop_drop, hd, List.drop_left]
/-- How far they are done. -/
theorem recP_le : ∀ (ps : List (List Int)) (s : St) (a : Nat), a ≤ (recP ps s a).2 ∧ (recP ps s a).2 ≤ a + (stream ps).length
  | [], s, a => by simp [recP, stream]
  | p :: ps, s, a => by
    cases hk : takeS s p with
    | none => rw [recP_none hk]; simp
    | some s' =>
      rw [recP_some hk, stream_cons, List.length_append]
      have := recP_le ps s' (a + (frameN p).length)
      omega
/-- What was done is done of the beginning alone. -/
theorem recP_cut : ∀ (ps : List (List Int)) (s : St) (a : Nat), ∃ m, m ≤ ps.length ∧ (recP ps s a).2 = a + (stream (ps.take m)).length ∧ recP (ps.take m) s a = recP ps s a
  | [], s, a => ⟨0, by simp, by simp [recP, stream], by simp⟩
  | p :: ps, s, a => by
    cases hk : takeS s p with
    | none => exact ⟨0, by simp, by rw [recP_none hk]; simp [stream], by rw [recP_none hk, List.take_zero, recP]⟩
    | some s' =>
      obtain ⟨m, h1, h2, h3⟩ := recP_cut ps s' (a + (frameN p).length)
      refine ⟨m + 1, by simp; omega, ?_, ?_⟩
      · rw [recP_some hk, h2, List.take_succ_cons, stream_cons, List.length_append]; omega
      · rw [List.take_succ_cons, recP_some hk, recP_some hk, h3]
theorem recA_stream (ps : List (List Int)) (hp : ∀ p ∈ ps, p.length ≤ 4096) (tail : List Int) (ht : (frameAt tail).1 ≠ -1) (hl : (stream ps ++ tail).length ≤ 65536) : recA (stream ps ++ tail) = ((recP ps zSt 0).1, (recP ps zSt 0).2, 0) := by
  unfold recA
  rw [if_neg (by omega), rec_stream (stream ps ++ tail) tail ht ps _ zSt 0 hp (by simp) (by omega) (by omega)]
theorem nil_none : (frameAt []).1 ≠ -1 := by rw [frameAt_nil]; decide

theorem drop_len {A B : List Int} : (A ++ B).drop A.length = B := List.drop_left
theorem num_two (k : Int) (T V : Nat) (hT : T ≤ 1000000) (hV : V ≤ 1000000) (d : List Int) : num1 (k :: (putN T ++ (putN V ++ d))) = ((T : Int), (putN T).length, 0) ∧ num2 (k :: (putN T ++ (putN V ++ d))) = ((V : Int), (putN V).length, 0) ∧ restP (k :: (putN T ++ (putN V ++ d))) = d := by
  have l1 : (putN T).length ≤ 9 := Nat.le_trans (putN_len 2 T (by omega)) (by omega)
  have l2 : (putN V).length ≤ 9 := Nat.le_trans (putN_len 2 V (by omega)) (by omega)
  have h1 : num1 (k :: (putN T ++ (putN V ++ d))) = ((T : Int), (putN T).length, 0) := by
    unfold num1
    rw [List.drop_succ_cons, List.drop_zero, getR_put T 9 0 0 _ l1 (.inl rfl)]
    simp
  have h2 : num2 (k :: (putN T ++ (putN V ++ d))) = ((V : Int), (putN V).length, 0) := by
    unfold num2
    rw [h1, Nat.add_comm 1, List.drop_succ_cons, drop_len, getR_put V 9 0 0 _ l2 (.inl rfl)]
    simp
  refine ⟨h1, h2, ?_⟩
  unfold restP
  rw [h1, h2, show 1 + (putN T).length + (putN V).length = (putN T).length + (putN V).length + 1 by omega, List.drop_succ_cons, ← List.drop_drop, drop_len, drop_len]
theorem term_nat {T : Nat} (h : T ≤ 1000000) : termIn (T : Int) := ⟨by omega, by omega⟩
theorem take_vote (s : St) (T V : Nat) (hT : T ≤ 1000000) (hV : V ≤ 1000000) : takeS s (1 :: (putN T ++ putN V)) = fitV s T V := by
  obtain ⟨h1, h2, h3⟩ := num_two 1 T V hT hV []
  rw [List.append_nil] at h1 h2 h3
  rw [take_else s (by simp) (by rw [h1]) (by rw [h2]) (by rw [h1, h2]; exact ⟨term_nat hT, term_nat hV⟩), h1, h2, h3]
  simp
theorem take_entry (s : St) (T V : Nat) (hT : T ≤ 1000000) (hV : V ≤ 1000000) (hV1 : 1 ≤ V) (d : List Int) (hd : d.length ≤ 1000) : takeS s (2 :: (putN T ++ (putN V ++ d))) = fitE s T V d := by
  obtain ⟨h1, h2, h3⟩ := num_two 2 T V hT hV d
  rw [take_else s (by simp) (by rw [h1]) (by rw [h2]) (by rw [h1, h2]; exact ⟨term_nat hT, term_nat hV⟩), h1, h2, h3]
  simp only [List.getD_cons_zero]
  rw [if_neg (by decide), if_pos trivial, if_neg (by omega)]

/-- The payloads of a state's records. -/
def entP (r : Rec3) : List Int := 2 :: (putN r.t.toNat ++ (putN r.i.toNat ++ r.d))
theorem entsTo_stream (rl : List Rec3) : entsTo rl rl.length = stream (rl.map entP) := by
  unfold entsTo stream
  rw [List.take_length, List.map_map]
  rfl
theorem recP_log : ∀ (rest pre : List Rec3) (s : St) (a : Nat), s.base = 0 → s.log = pre → (∀ j, j < rest.length → recOK (rest.getD j zRec).t (rest.getD j zRec).i (rest.getD j zRec).d.length = true ∧ (rest.getD j zRec).i = ((pre.length + j : Nat) : Int) + 1) → pre.length + rest.length ≤ 100 →
    recP (rest.map entP) s a = ({ s with log := pre ++ rest }, a + (stream (rest.map entP)).length)
  | [], pre, s, a, hb, hl, _, _ => by
    simp only [List.map_nil, recP, List.append_nil, stream, List.flatten_nil, List.length_nil, Nat.add_zero]
    rw [← hl]
  | r :: rest, pre, s, a, hb, hl, hr, hn => by
    obtain ⟨h0, hi⟩ := hr 0 (by simp)
    simp only [List.getD_cons_zero, Nat.add_zero] at h0 hi
    obtain ⟨⟨T, hT, hT1⟩, ⟨I, hI, hI1, hI2⟩, hd⟩ := recOK_yes h0
    have hle : pre.length < 100 := by simp at hn; omega
    have ht : takeS s (entP r) = some { s with log := pre ++ [r] } := by
      unfold entP
      rw [hT, hI, Int.toNat_natCast, Int.toNat_natCast, take_entry s T I hT1 hI1 hI2 r.d hd]
      unfold fitE
      rw [hb, hl, if_neg (by omega), show ((I : Int) - 0 - 1).toNat = pre.length by omega, List.take_length]
      congr 3
      rw [← hT, ← hI]
    rw [List.map_cons, recP_some ht, recP_log rest (pre ++ [r]) { s with log := pre ++ [r] } _ hb rfl (fun j hj => ?_) (by simp at hn ⊢; omega), stream_cons, List.length_append]
    · simp [Nat.add_assoc]
    · have := hr (j + 1) (by simp; omega)
      simp only [List.getD_cons_succ] at this
      refine ⟨this.1, ?_⟩
      rw [this.2]
      simp
      omega
/-- A state whose records are written down is recovered. -/
theorem rec_wal (a : Wal5) (rl : List Rec3) (h : walOK a rl = true) (hl : (walB a rl).length ≤ 65536) : recA (walB a rl) = (⟨a.T, a.V, 0, 0, rl⟩, (walB a rl).length, 0) ∧ walA a rl = walB a rl ∧ walC a rl = 0 := by
  obtain ⟨⟨T, hT, hT1⟩, ⟨V, hV, hV1⟩, hn, hg⟩ := wal_yes h
  have hgo : ∀ j, j < rl.length → recOK (rl.getD j zRec).t (rl.getD j zRec).i (rl.getD j zRec).d.length = true ∧ (rl.getD j zRec).i = ((([] : List Rec3).length + j : Nat) : Int) + 1 := fun j hj => by
    have := goods_at hg hj
    unfold good at this
    simp only [Bool.and_eq_true, decide_eq_true_eq] at this
    exact ⟨this.1, by simpa using this.2⟩
  have hps : ∀ p ∈ ((1 :: (putN a.T.toNat ++ putN a.V.toNat)) :: rl.map entP), p.length ≤ 4096 := by
    intro p hp
    rcases List.mem_cons.1 hp with rfl | hp
    · have := pay_len T V hT1 hV1
      rw [hT, hV]
      simp
      omega
    · obtain ⟨r, hr, rfl⟩ := List.mem_map.1 hp
      obtain ⟨j, hj, rfl⟩ := List.getElem_of_mem hr
      have := (hgo j hj).1
      have e : rl.getD j zRec = rl[j] := by simp [List.getD_eq_getElem?_getD, hj]
      rw [e] at this
      obtain ⟨⟨T', hT', hT1'⟩, ⟨I', hI', hI1', _⟩, hd'⟩ := recOK_yes this
      have hh := pay_len T' I' hT1' hI1'
      unfold entP
      rw [hT', hI']
      simp
      omega
  have hB : walB a rl = stream ((1 :: (putN a.T.toNat ++ putN a.V.toNat)) :: rl.map entP) ++ [] := by
    rw [List.append_nil, stream_cons, ← entsTo_stream]
    rfl
  refine ⟨?_, by unfold walA; rw [if_pos h, if_pos hl], by unfold walC; rw [if_pos h, if_pos hl]⟩
  have hv : takeS zSt (1 :: (putN a.T.toNat ++ putN a.V.toNat)) = some ⟨a.T, a.V, 0, 0, []⟩ := by
    rw [hT, hV, Int.toNat_natCast, Int.toNat_natCast, take_vote zSt T V hT1 hV1]
    unfold fitV
    rw [if_neg (by simp [zSt])]
    rfl
  rw [hB] at hl ⊢
  rw [recA_stream _ hps [] nil_none hl, recP_some hv, recP_log rl [] ⟨a.T, a.V, 0, 0, []⟩ _ rfl rfl hgo (by simpa using hn)]
  rw [List.append_nil, stream_cons, List.length_append]
  simp
end Go.Proofs.Ytipcdioolafkpaa.streams

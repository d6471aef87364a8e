/- To each other peer: records are sent, votes are asked for. -/
import Derived.Test.YtklkglbimjajnaaSendr
namespace Go.Proofs.Ytklkglbimjajnaa.too
open Go.ChangeShapes Go.WideShapes Go.ChangeAt Go.RowKit
open Go.Proofs.Ytklkglbimjajnaa.Raft Go.Proofs.Ytklkglbimjajnaa.mem Go.Proofs.Ytklkglbimjajnaa.grp Go.Proofs.Ytklkglbimjajnaa.look Go.Proofs.Ytklkglbimjajnaa.ndw Go.Proofs.Ytklkglbimjajnaa.grant Go.Proofs.Ytklkglbimjajnaa.stand Go.Proofs.Ytklkglbimjajnaa.rows2 Go.Proofs.Ytklkglbimjajnaa.post Go.Proofs.Ytklkglbimjajnaa.postb Go.Proofs.Ytklkglbimjajnaa.say Go.Proofs.Ytklkglbimjajnaa.sendr
set_option linter.unusedVariables false

def upto (f : Cl → Nat → Cl) (k i : Nat) (c : Cl) : Cl := ((List.range i).filter (· ≠ k)).foldl f c
theorem upto_skip (f : Cl → Nat → Cl) (k : Nat) (c : Cl) : upto f k (k + 1) c = upto f k k c := by
  unfold upto
  rw [List.range_succ, List.filter_append]
  simp
theorem upto_step (f : Cl → Nat → Cl) {k i : Nat} (c : Cl) (h : i ≠ k) : upto f k (i + 1) c = f (upto f k i c) i := by
  unfold upto
  rw [List.range_succ, List.filter_append]
  simp [h]
theorem upto_at (f : Cl → Nat → Cl) (k : Nat) (hf : ∀ c i, (f c i).at k = c.at k ∧ (f c i).peers.length = c.peers.length) (c : Cl) : ∀ l : List Nat, (l.foldl f c).at k = c.at k ∧ (l.foldl f c).peers.length = c.peers.length := fun l => by
  induction l generalizing c with
  | nil => exact ⟨rfl, rfl⟩
  | cons x l ih => rw [List.foldl_cons]; exact ⟨(ih (f c x)).1.trans (hf c x).1, (ih (f c x)).2.trans (hf c x).2⟩

set_option maxRecDepth 20000 in
set_option maxHeartbeats 1600000 in
theorem toRecs (w : World) (M : Fz) (O : Lb) (d : Nat) (nb : List Nat) (c : Cl) (h : G w M O d nb c) (k b : Nat) (hb : nb[k]? = some b) (f : Cl → Nat → Cl) (hn7 : c.peers.length ≤ 7) (hf : ∀ c i, (f c i).at k = c.at k ∧ (f c i).peers.length = c.peers.length)
    (HC : Hid (∀ (wx : World) (M' : Fz) (O' : Lb) (c' : Cl) (i : Nat), G wx M' O' d nb c' → c'.at k = c.at k → i < c.peers.length → i ≠ k → Calls Try.prog 134 #[.pointer (some ⟨d, 0, none⟩), .pointer (some ⟨b, 0, none⟩), .int .i64 i] wx fun r w' => r = .returned (.tuple #[]) ∧ Did M' O' wx d nb (f c' i) w')) :
    Calls Try.prog 133 #[.pointer (some ⟨d, 0, none⟩), .pointer (some ⟨b, 0, none⟩), .func (.func 134) #[.pointer (some ⟨d, 0, none⟩)] #[]] w fun r w' => r = .returned (.tuple #[]) ∧ Did M O w d nb (upto f k c.peers.length c) w' := by
  have HG := hide h
  obtain ⟨hd, pv, cv, bs, us, cs, hg⟩ := h
  obtain ⟨o, cp, rfl, _, h3⟩ := Gr.pvs hg
  unfold maxLen at h3
  obtain ⟨⟨_, _, c2, _⟩, _⟩ := Gr.ca hg
  have HU : Hid (∀ i, (upto f k i c).at k = c.at k ∧ (upto f k i c).peers.length = c.peers.length) := fun i => upto_at f k hf c _
  have HN : Hid (∀ (wx : World) (M' : Fz) (O' : Lb) (i : Nat), G wx M' O' d nb (upto f k i c) → wx.cell? ⟨b, 3, none⟩ = some (.int .i64 k)) := fun wx M' O' i hx => by
    obtain ⟨_, _, _, _, _, hn⟩ := hx.at hb
    exact (Nd.cs hn).1.2.2.2.1
  have H0 : Hid (Did M O w d nb (upto f k 0 c) w) := ⟨M, O, Aft.refl _ HG.out.sta, HG.out⟩
  have HP := hide hb
  obtain ⟨n, hn⟩ : ∃ n, n = c.peers.length := ⟨_, rfl⟩
  rw [← hn] at c2 hn7 HC ⊢
  clear hg HG hb hf hn
  go_enter Try.func133, Try.ntmps133
  go_wp2
  go_loopw [12] (fun iv wr => ∃ i : Nat, i ≤ n ∧ iv = .int .i64 i ∧ Hid (Did M O w d nb (upto f k i c) wr)) (fun iv _ => n - (intOf iv).toNat)
  case atStart => exact ⟨0, Nat.zero_le _, rfl, H0⟩
  case round =>
    obtain ⟨i, hi, rfl, HI⟩ := hrel
    by_cases hlt : i < n
    · have hltI : (i : Int) < n := by omega
      obtain ⟨M1, O1, a1, g1⟩ := HI.out
      have c3 := HN.out wr M1 O1 i g1
      by_cases hik : i = k
      · have e1 : ((i : Int) != (k : Int)) = false := by simp; omega
        have HX : Hid (Did M O w d nb (upto f k (i + 1) c) wr) := by
          have e2 : upto f k (i + 1) c = upto f k i c := by subst hik; exact upto_skip f i c
          rw [e2]
          exact HI.out
        clear g1 a1 HI hik
        go_wp2
        go_roundw
        case rel => exact ⟨i + 1, by omega, by go_num, HX⟩
        case measure => simp [intOf]; omega
      · have e1 : ((i : Int) != (k : Int)) = true := by simp; omega
        have HX : Hid (Calls Try.prog 134 #[.pointer (some ⟨d, 0, none⟩), .pointer (some ⟨b, 0, none⟩), .int .i64 i] wr fun r w' => r = .returned (.tuple #[]) ∧ Did M O w d nb (upto f k (i + 1) c) w') := by
          refine (HC.out wr M1 O1 (upto f k i c) i g1 (HU.out i).1 hlt hik).mono ?_
          rintro r w' ⟨rfl, hd⟩
          rw [upto_step f c hik]
          exact ⟨rfl, Did.trans a1 hd⟩
        clear g1 a1 HI hik
        go_wp2_with (go_at_call 134; refine HX.out.mono ?_; rintro rr w2 ⟨rfl, hd2⟩; have HD2 := hide hd2; clear hd2)
        go_roundw
        case rel => exact ⟨i + 1, by omega, by go_num, HD2⟩
        case measure => simp [intOf]; omega
    · have hltI : ¬ (i : Int) < n := by omega
      obtain rfl : i = n := by omega
      go_wp2
      go_end0
      exact ⟨rfl, HI.out⟩

set_option maxRecDepth 20000 in
set_option maxHeartbeats 1600000 in
theorem toVotes (w : World) (M : Fz) (O : Lb) (d : Nat) (nb : List Nat) (c : Cl) (h : G w M O d nb c) (k b : Nat) (hb : nb[k]? = some b) (f : Cl → Nat → Cl) (hn7 : c.peers.length ≤ 7) (hf : ∀ c i, (f c i).at k = c.at k ∧ (f c i).peers.length = c.peers.length)
    (HC : Hid (∀ (wx : World) (M' : Fz) (O' : Lb) (c' : Cl) (i : Nat), G wx M' O' d nb c' → c'.at k = c.at k → i < c.peers.length → i ≠ k → Calls Try.prog 136 #[.pointer (some ⟨d, 0, none⟩), .pointer (some ⟨b, 0, none⟩), .int .i64 i] wx fun r w' => r = .returned (.tuple #[]) ∧ Did M' O' wx d nb (f c' i) w')) :
    Calls Try.prog 133 #[.pointer (some ⟨d, 0, none⟩), .pointer (some ⟨b, 0, none⟩), .func (.func 136) #[.pointer (some ⟨d, 0, none⟩)] #[]] w fun r w' => r = .returned (.tuple #[]) ∧ Did M O w d nb (upto f k c.peers.length c) w' := by
  have HG := hide h
  obtain ⟨hd, pv, cv, bs, us, cs, hg⟩ := h
  obtain ⟨o, cp, rfl, _, h3⟩ := Gr.pvs hg
  unfold maxLen at h3
  obtain ⟨⟨_, _, c2, _⟩, _⟩ := Gr.ca hg
  have HU : Hid (∀ i, (upto f k i c).at k = c.at k ∧ (upto f k i c).peers.length = c.peers.length) := fun i => upto_at f k hf c _
  have HN : Hid (∀ (wx : World) (M' : Fz) (O' : Lb) (i : Nat), G wx M' O' d nb (upto f k i c) → wx.cell? ⟨b, 3, none⟩ = some (.int .i64 k)) := fun wx M' O' i hx => by
    obtain ⟨_, _, _, _, _, hn⟩ := hx.at hb
    exact (Nd.cs hn).1.2.2.2.1
  have H0 : Hid (Did M O w d nb (upto f k 0 c) w) := ⟨M, O, Aft.refl _ HG.out.sta, HG.out⟩
  have HP := hide hb
  obtain ⟨n, hn⟩ : ∃ n, n = c.peers.length := ⟨_, rfl⟩
  rw [← hn] at c2 hn7 HC ⊢
  clear hg HG hb hf hn
  go_enter Try.func133, Try.ntmps133
  go_wp2
  go_loopw [12] (fun iv wr => ∃ i : Nat, i ≤ n ∧ iv = .int .i64 i ∧ Hid (Did M O w d nb (upto f k i c) wr)) (fun iv _ => n - (intOf iv).toNat)
  case atStart => exact ⟨0, Nat.zero_le _, rfl, H0⟩
  case round =>
    obtain ⟨i, hi, rfl, HI⟩ := hrel
    by_cases hlt : i < n
    · have hltI : (i : Int) < n := by omega
      obtain ⟨M1, O1, a1, g1⟩ := HI.out
      have c3 := HN.out wr M1 O1 i g1
      by_cases hik : i = k
      · have e1 : ((i : Int) != (k : Int)) = false := by simp; omega
        have HX : Hid (Did M O w d nb (upto f k (i + 1) c) wr) := by
          have e2 : upto f k (i + 1) c = upto f k i c := by subst hik; exact upto_skip f i c
          rw [e2]
          exact HI.out
        clear g1 a1 HI hik
        go_wp2
        go_roundw
        case rel => exact ⟨i + 1, by omega, by go_num, HX⟩
        case measure => simp [intOf]; omega
      · have e1 : ((i : Int) != (k : Int)) = true := by simp; omega
        have HX : Hid (Calls Try.prog 136 #[.pointer (some ⟨d, 0, none⟩), .pointer (some ⟨b, 0, none⟩), .int .i64 i] wr fun r w' => r = .returned (.tuple #[]) ∧ Did M O w d nb (upto f k (i + 1) c) w') := by
          refine (HC.out wr M1 O1 (upto f k i c) i g1 (HU.out i).1 hlt hik).mono ?_
          rintro r w' ⟨rfl, hd⟩
          rw [upto_step f c hik]
          exact ⟨rfl, Did.trans a1 hd⟩
        clear g1 a1 HI hik
        go_wp2_with (go_at_call 136; refine HX.out.mono ?_; rintro rr w2 ⟨rfl, hd2⟩; have HD2 := hide hd2; clear hd2)
        go_roundw
        case rel => exact ⟨i + 1, by omega, by go_num, HD2⟩
        case measure => simp [intOf]; omega
    · have hltI : ¬ (i : Int) < n := by omega
      obtain rfl : i = n := by omega
      go_wp2
      go_end0
      exact ⟨rfl, HI.out⟩

theorem rec_at (c : Cl) (k i : Nat) (q : Nat) : (c.records k i).at q = c.at q ∧ (c.records k i).peers.length = c.peers.length := ⟨records_at c k i q, by rw [records_peers]⟩
/-- A leader sends records to each other peer. -/
theorem toAll_any (w : World) (M : Fz) (O : Lb) (d : Nat) (nb : List Nat) (c : Cl) (h : G w M O d nb c) (k b : Nat) (hb : nb[k]? = some b) (hn7 : c.peers.length ≤ 7) (hl : (c.at k).log.length ≤ 1000)
    (hnx : ∀ i, i < c.peers.length → ∃ f, (c.at k).next[i]? = some f ∧ 1 ≤ f ∧ f ≤ (c.at k).log.length + 1) :
    Calls Try.prog 133 #[.pointer (some ⟨d, 0, none⟩), .pointer (some ⟨b, 0, none⟩), .func (.func 134) #[.pointer (some ⟨d, 0, none⟩)] #[]] w fun r w' => r = .returned (.tuple #[]) ∧ Did M O w d nb (c.toAll k) w' := by
  refine toRecs w M O d nb c h k b hb (fun c i => c.records k i) hn7 (fun c i => rec_at c k i k) (fun wx M' O' c' i hx hat hi hik => ?_)
  obtain ⟨f, h1, h2, h3⟩ := hnx i hi
  exact sendRecords_any wx M' O' d nb c' hx k b hb i f (by rw [hat]; exact h1) h2 (by rw [hat]; exact h3) (by rw [hat]; exact hl) (by omega)
/-- A candidate asks each other peer for its vote. -/
theorem askAll_any (w : World) (M : Fz) (O : Lb) (d : Nat) (nb : List Nat) (c : Cl) (h : G w M O d nb c) (k b : Nat) (hb : nb[k]? = some b) (hn7 : c.peers.length ≤ 7) :
    Calls Try.prog 133 #[.pointer (some ⟨d, 0, none⟩), .pointer (some ⟨b, 0, none⟩), .func (.func 136) #[.pointer (some ⟨d, 0, none⟩)] #[]] w fun r w' => r = .returned (.tuple #[]) ∧
      Did M O w d nb ((others c.peers.length k).foldl (fun c' i => c'.send ⟨1, k, i, (c.at k).term, (c.at k).log.length, lastTerm (c.at k).log, 0, false, []⟩) c) w' := by
  refine toVotes w M O d nb c h k b hb (fun c' i => c'.send ⟨1, k, i, (c.at k).term, (c.at k).log.length, lastTerm (c.at k).log, 0, false, []⟩) hn7 (fun c' i => ⟨send_at _ _ _, by rw [send_peers]⟩) (fun wx M' O' c' i hx hat hi hik => ?_)
  have := askForVote_any wx M' O' d nb c' hx k b hb i (by omega)
  rw [hat] at this
  exact this
end Go.Proofs.Ytklkglbimjajnaa.too

/- Contracts of the functions that make a frame. -/
import Derived.Test.YtipcdioolafkpaaJoin
import Derived.Test.YtipcdioolafkpaaPut
import Derived.Test.YtipcdioolafkpaaCrcs
namespace Go.Proofs.Ytipcdioolafkpaa.frames
open Go.ChangeShapes Go.WideShapes Go.ChangeAt Go.RowKit
open Go.Proofs.Ytipcdioolafkpaa.bytes Go.Proofs.Ytipcdioolafkpaa.pile Go.Proofs.Ytipcdioolafkpaa.put Go.Proofs.Ytipcdioolafkpaa.crcs Go.Proofs.Ytipcdioolafkpaa.join
set_option linter.unusedVariables false

/-- A sum's four bytes, the lowest first. -/
def four (n : Nat) : List Int := [(n : Int) % 256, (n : Int) / 256 % 256, (n : Int) / 65536 % 256, (n : Int) / 16777216 % 256]
theorem four_bd (n : Nat) : ∀ x ∈ four n, 0 ≤ x ∧ x ≤ 255 := by
  intro x hx
  simp only [four, List.mem_cons, List.not_mem_nil, or_false] at hx
  omega

set_option maxHeartbeats 400000 in
theorem l01Four_own (n : Nat) (w : World) (hn : n < 4294967296) :
    Calls Try.prog 62 #[.int .i64 n] w fun e w' => ∃ v, e = .returned v ∧ Own w' w.heap.size v (four n) ∧ Below w.heap.size w w' := by
  go_enter Try.func62, Try.ntmps62
  go_wp2
  go_ret
  refine ⟨_, rfl, ⟨four_bd n, ?_⟩, (Below.refl _ _).alloc (Nat.le_refl _) _⟩
  exact World.ownsRow_lit w #[.int .u8 ((n : Int) % 256), .int .u8 ((n : Int) / 256 % 256), .int .u8 ((n : Int) / 65536 % 256), .int .u8 ((n : Int) / 16777216 % 256)] 4 (Nat.le_refl _) (by simp [maxLen]) (by simp)

set_option maxHeartbeats 400000 in
theorem sumBytes_own (n : Nat) (w : World) (hn : n < 4294967296) :
    Calls Try.prog 41 #[.int .i64 n] w fun e w' => ∃ v, e = .returned v ∧ Own w' w.heap.size v (four n) ∧ Below w.heap.size w w' := by
  go_enter Try.func41, Try.ntmps41
  go_wp2
  go_ret
  have e4 : four n = [(n : Int) % 256, (n : Int) / 256 % 256, (n : Int) / 65536 % 256, (n : Int) / 16777216] := by
    have : (n : Int) / 16777216 % 256 = (n : Int) / 16777216 := by omega
    rw [four, this]
  refine ⟨_, rfl, ⟨four_bd n, ?_⟩, (Below.refl _ _).alloc (Nat.le_refl _) _⟩
  rw [e4]
  exact World.ownsRow_lit w #[.int .u8 ((n : Int) % 256), .int .u8 ((n : Int) / 256 % 256), .int .u8 ((n : Int) / 65536 % 256), .int .u8 ((n : Int) / 16777216)] 4 (Nat.le_refl _) (by simp [maxLen]) (by simp)

/-- A frame. -/
def frameN (xs : List Int) : List Int := putN xs.length ++ xs ++ four (crcN xs)
theorem frameN_len {xs : List Int} (h : xs.length ≤ 65536) : (frameN xs).length ≤ 65550 := by
  have := putN_len 9 xs.length (by omega)
  simp [frameN, four]
  omega

set_option maxHeartbeats 400000 in
theorem l01Frame_own (w : World) (b : Value) (xs : List Int) (hl : xs.length ≤ 65536) (hb : RdA w b xs) :
    Calls Try.prog 45 #[b] w fun e w' => ∃ v, e = .returned v ∧ Own w' w.heap.size v (frameN xs) ∧ Below w.heap.size w w' := by
  have HB : Hid (RdA w b xs) := hb
  obtain ⟨⟨ao, ca, rfl, ha1, ha2, hx, _⟩, _⟩ := hb
  unfold maxLen at ha2
  have HX : Hid (∀ x ∈ xs, 0 ≤ x ∧ x ≤ 255) := hx
  clear hx
  go_enter Try.func45, Try.ntmps45
  go_wp2_with fail
  refine (l01Put_own xs.length _ (by unfold maxLen; omega)).mono ?_
  rintro e w1 ⟨v1, rfl, HO1, hb1⟩
  have hs1 := hb1.size
  have HB1 := HB.out.below hb1 (Nat.le_refl _)
  have hpl := putN_len 9 xs.length (by omega)
  have HL : Hid ((putN xs.length).length + xs.length ≤ 140737488355328) := by unfold Hid; omega
  clear hpl
  go_wp2_with (at_builtin; refine wpList_append_rd _ rfl _ _ 22 rfl Try.underlying22 info5 w.heap.size _ _ rfl HO1 _ xs rfl HB1 HL.out hs1 ?_; intro v2 w2 hown2 hgrow2)
  have HO2 : Own w2 w.heap.size v2 (putN xs.length ++ xs) := hown2
  have hb2 : Below w.heap.size w w2 := hb1.grown hgrow2 hs1 (fun k hk => (HO1.lt k hk).1)
  have HB2 := HB.out.below hb2 (Nat.le_refl _)
  clear hown2 hgrow2 HO1 HB1 HL
  refine (l01Crc_any _ _ xs HB2.1).mono ?_
  rintro e w3 ⟨rfl, rfl⟩
  have HC : Hid (crcN xs < 4294967296) := crcN_lt HX.out
  have HF : Hid (frameN xs = (putN xs.length ++ xs) ++ four (crcN xs)) := hide rfl
  generalize crcN xs = c at HC HF ⊢
  go_wp2_with fail
  refine (l01Four_own c _ HC.out).mono ?_
  rintro e w4 ⟨v4, rfl, HO4, hb4⟩
  have HO24 := HO2.below hb4 (Nat.le_refl _)
  have hs2 := hb2.size
  have hs4 := hb4.size
  have hb24 : Below w.heap.size w w4 := hb2.trans (hb4.mono hs2)
  have hs : w.heap.size ≤ w4.heap.size := by omega
  have HL : Hid ((putN xs.length ++ xs).length + (four c).length ≤ 140737488355328) := by
    have := putN_len 9 xs.length (by omega)
    simp [Hid, four]
    omega
  go_wp2_with (at_builtin; refine wpList_append_rd _ rfl _ _ 22 rfl Try.underlying22 info5 w.heap.size _ _ rfl HO24 _ (four c) rfl (Own.rdA HO4) HL.out hs ?_; intro v5 w5 hown5 hgrow5)
  go_ret
  refine ⟨_, rfl, by rw [HF.out]; exact hown5, hb24.grown hgrow5 hs (fun k hk => (HO24.lt k hk).1)⟩

set_option maxHeartbeats 400000 in
theorem specFrame_good (w : World) (b : Value) (xs : List Int) (hl : xs.length ≤ 4096) (hb : RdA w b xs) :
    Calls Try.prog 18 #[b] w fun e w' => ∃ v, e = .returned (.tuple #[v, .int .i64 0]) ∧ Own w' w.heap.size v (frameN xs) ∧ Below w.heap.size w w' := by
  have HB : Hid (RdA w b xs) := hb
  obtain ⟨⟨ao, ca, rfl, ha1, ha2, hx, _⟩, _⟩ := hb
  unfold maxLen at ha2
  have h1 : ¬ (65536 : Int) < xs.length := by omega
  have h2 : ¬ (4096 : Int) < xs.length := by omega
  clear hx
  go_enter Try.func18, Try.ntmps18
  go_wp2_with fail
  refine (l01Frame_own _ _ xs (by omega) (by exact HB)).mono ?_
  rintro e w1 ⟨v1, rfl, HO1, hb1⟩
  go_wp2
  go_ret2
  exact ⟨_, rfl, HO1, hb1⟩

/-- What Frame answers: the bytes, the code. -/
def frameA (xs : List Int) : List Int := if xs.length ≤ 4096 then frameN xs else []
def frameC (xs : List Int) : Int := if xs.length ≤ 4096 then 0 else if xs.length ≤ 65536 then 5 else 2

set_option maxHeartbeats 400000 in
theorem specFrame (w : World) (b : Value) (xs : List Int) (hb : RdA w b xs) :
    Calls Try.prog 18 #[b] w fun e w' => ∃ v, e = .returned (.tuple #[v, .int .i64 (frameC xs)]) ∧ Own w' w.heap.size v (frameA xs) ∧ Below w.heap.size w w' := by
  by_cases hl : xs.length ≤ 4096
  · rw [frameA, frameC, if_pos hl, if_pos hl]
    exact specFrame_good w b xs hl hb
  · rw [frameA, frameC, if_neg hl, if_neg hl]
    obtain ⟨⟨ao, ca, rfl, ha1, ha2, hx, _⟩, _⟩ := hb
    unfold maxLen at ha2
    clear hx
    by_cases hl2 : xs.length ≤ 65536
    · rw [if_pos hl2]
      have h1 : ¬ (65536 : Int) < xs.length := by omega
      have h2 : (4096 : Int) < xs.length := by omega
      go_enter Try.func18, Try.ntmps18
      go_wp2
      go_ret2
      exact ⟨_, rfl, ⟨by simp, World.ownsRow_lit _ #[] 0 (Nat.le_refl _) (by simp [maxLen]) (by simp)⟩, (Below.refl _ _).alloc (Nat.le_refl _) _⟩
    · rw [if_neg hl2]
      have h1 : (65536 : Int) < xs.length := by omega
      go_enter Try.func18, Try.ntmps18
      go_wp2
      go_ret2
      exact ⟨_, rfl, ⟨by simp, World.ownsRow_lit _ #[] 0 (Nat.le_refl _) (by simp [maxLen]) (by simp)⟩, (Below.refl _ _).alloc (Nat.le_refl _) _⟩

set_option maxHeartbeats 400000 in
theorem implFrame_good (w : World) (b : Value) (xs : List Int) (hl : xs.length ≤ 4096) (hb : RdA w b xs) :
    Calls Try.prog 14 #[b] w fun e w' => ∃ v, e = .returned (.tuple #[v, .int .i64 0]) ∧ Own w' w.heap.size v (frameN xs) ∧ Below w.heap.size w w' := by
  have HB : Hid (RdA w b xs) := hb
  obtain ⟨⟨ao, ca, rfl, ha1, ha2, hx, _⟩, _⟩ := hb
  unfold maxLen at ha2
  have HX : Hid (∀ x ∈ xs, 0 ≤ x ∧ x ≤ 255) := hx
  have h1 : ¬ (65536 : Int) < xs.length := by omega
  have h2 : ¬ (4096 : Int) < xs.length := by omega
  clear hx
  go_enter Try.func14, Try.ntmps14
  go_wp2_with fail
  refine (numberBytes_own xs.length _ (by unfold maxLen; omega)).mono ?_
  rintro e w1 ⟨v1, rfl, HO1, hb1⟩
  have HB1 := HB.out.below hb1 (Nat.le_refl _)
  go_wp2_with fail
  refine (implCrc_any _ _ xs (by omega) HB1.1).mono ?_
  rintro e w2 ⟨rfl, rfl⟩
  have HC : Hid (crcN xs < 4294967296) := crcN_lt HX.out
  have HF : Hid (frameN xs = [putN xs.length, xs, four (crcN xs)].flatten) := by simp [Hid, frameN]
  generalize crcN xs = c at HC HF ⊢
  go_wp2_with fail
  refine (sumBytes_own c _ HC.out).mono ?_
  rintro e w3 ⟨v3, rfl, HO3, hb3⟩
  have HO13 := HO1.below hb3 (Nat.le_refl _)
  have HB3 := HB1.below hb3 (Nat.le_refl _)
  obtain ⟨a1, c1, e1, _⟩ := HO13.rd
  obtain ⟨a3, c3, e3, _⟩ := HO3.rd
  subst e1
  subst e3
  go_wp2_with fail
  have hsz := hb3.size
  have hsz1 := hb1.size
  have hba : Below w3.heap.size w3 (w3.alloc (.cells #[.slice a1 (putN xs.length).length c1, .slice ao xs.length ca, .slice a3 (four c).length c3] 22)) := (Below.refl _ _).alloc (Nat.le_refl _) _
  have HT : Texts (w3.alloc (.cells #[.slice a1 (putN xs.length).length c1, .slice ao xs.length ca, .slice a3 (four c).length c3] 22)) [.slice a1 (putN xs.length).length c1, .slice ao xs.length ca, .slice a3 (four c).length c3] [putN xs.length, xs, four c] := by
    refine ⟨rfl, fun i hi => ?_⟩
    have h3 : i = 0 ∨ i = 1 ∨ i = 2 := by simp at hi; omega
    rcases h3 with rfl | rfl | rfl
    · exact (Own.rdA HO13).below hba (Nat.le_refl _)
    · exact HB3.below hba (Nat.le_refl _)
    · exact (Own.rdA HO3).below hba (Nat.le_refl _)
  have HS : RdS (w3.alloc (.cells #[.slice a1 (putN xs.length).length c1, .slice ao xs.length ca, .slice a3 (four c).length c3] 22)) (.slice (some ⟨w3.heap.size, 0, none⟩) 3 3) [.slice a1 (putN xs.length).length c1, .slice ao xs.length ca, .slice a3 (four c).length c3] := by
    refine ⟨_, _, rfl, Nat.le_refl _, by simp [maxLen], fun _ => ⟨_, _, rfl, fun i hi => ?_⟩⟩
    have h3 : i = 0 ∨ i = 1 ∨ i = 2 := by simp at hi; omega
    rcases h3 with rfl | rfl | rfl <;> simp
  have HL : [putN xs.length, xs, four c].flatten.length ≤ 140737488355328 := by
    have := putN_len 9 xs.length (by omega)
    simp [four]
    omega
  refine (join_own _ _ _ _ HS HT HL).mono ?_
  rintro e w4 ⟨v4, rfl, HO4, hb4⟩
  have hsz4 : (w3.alloc (.cells #[.slice a1 (putN xs.length).length c1, .slice ao xs.length ca, .slice a3 (four c).length c3] 22)).heap.size = w3.heap.size + 1 := by simp
  rw [hsz4] at HO4 hb4
  have HFin : Hid (Own w4 w.heap.size v4 (frameN xs) ∧ Below w.heap.size w w4) := by
    rw [HF.out]
    exact hide ⟨HO4.mono (by omega), ((hb1.trans (hb3.mono hsz1)).trans (hba.mono (by omega))).trans (hb4.mono (by omega))⟩
  clear HO4 hb4 HT HS HL hba HO13 HO3 HB3 HO1 HB1 hsz4
  go_wp2
  go_ret2
  exact ⟨_, rfl, HFin.out⟩

set_option maxHeartbeats 400000 in
theorem implFrame (w : World) (b : Value) (xs : List Int) (hb : RdA w b xs) :
    Calls Try.prog 14 #[b] w fun e w' => ∃ v, e = .returned (.tuple #[v, .int .i64 (frameC xs)]) ∧ Own w' w.heap.size v (frameA xs) ∧ Below w.heap.size w w' := by
  by_cases hl : xs.length ≤ 4096
  · rw [frameA, frameC, if_pos hl, if_pos hl]
    exact implFrame_good w b xs hl hb
  · rw [frameA, frameC, if_neg hl, if_neg hl]
    obtain ⟨⟨ao, ca, rfl, ha1, ha2, hx, _⟩, _⟩ := hb
    unfold maxLen at ha2
    clear hx
    by_cases hl2 : xs.length ≤ 65536
    · rw [if_pos hl2]
      have h1 : ¬ (65536 : Int) < xs.length := by omega
      have h2 : (4096 : Int) < xs.length := by omega
      go_enter Try.func14, Try.ntmps14
      go_wp2
      go_ret2
      exact ⟨_, rfl, ⟨by simp, World.ownsRow_nil _ _ _ _⟩, Below.refl _ _⟩
    · rw [if_neg hl2]
      have h1 : (65536 : Int) < xs.length := by omega
      go_enter Try.func14, Try.ntmps14
      go_wp2
      go_ret2
      exact ⟨_, rfl, ⟨by simp, World.ownsRow_nil _ _ _ _⟩, Below.refl _ _⟩
end Go.Proofs.Ytipcdioolafkpaa.frames

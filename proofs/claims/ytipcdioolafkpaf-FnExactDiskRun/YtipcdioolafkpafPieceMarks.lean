/- Rows of numbers: equal, marked, held; pieces of one row of bytes: marked, held. -/
import Derived.Test.YtipcdioolafkpafPieces
namespace Go.Proofs.Ytipcdioolafkpaf.piecemarks
open Go.ChangeShapes Go.WideShapes Go.ChangeAt Go.RowKit
open Go.Proofs.Ytipcdioolafkpaf.bytes Go.Proofs.Ytipcdioolafkpaf.pile Go.Proofs.Ytipcdioolafkpaf.reader Go.Proofs.Ytipcdioolafkpaf.lists Go.Proofs.Ytipcdioolafkpaf.sizes Go.Proofs.Ytipcdioolafkpaf.marked Go.Proofs.Ytipcdioolafkpaf.disks Go.Proofs.Ytipcdioolafkpaf.crashes Go.Proofs.Ytipcdioolafkpaf.acts Go.Proofs.Ytipcdioolafkpaf.diskof Go.Proofs.Ytipcdioolafkpaf.beside Go.Proofs.Ytipcdioolafkpaf.doside Go.Proofs.Ytipcdioolafkpaf.implrun Go.Proofs.Ytipcdioolafkpaf.pieces
set_option linter.unusedVariables false

/-- The slice value v reads, in world w, as these numbers. -/
def RdN (w : World) (v : Value) (ns : List Int) : Prop :=
  ∃ ao cap, v = .slice ao ns.length cap ∧ ns.length ≤ cap ∧ cap ≤ maxLen ∧
    (0 < ns.length → ∃ b off, ao = some ⟨b, off, none⟩ ∧ ∀ i, i < ns.length → w.cell? ⟨b, off + i, none⟩ = some (.int .i64 (ns.getD i 0)))
def OwnN (w : World) (base : Nat) (v : Value) (ns : List Int) : Prop := w.ownsRow base 3 1 v ns.length (ns.map (Value.int .i64))
theorem OwnN.rd {w : World} {base : Nat} {v : Value} {xs : List Int} (h : OwnN w base v xs) : RdN w v xs := by
  have h' := h
  obtain ⟨h1, ⟨rfl, h2⟩ | ⟨g, cap, cur, rfl, hb, hg, hnc, hcm, hcs, htake⟩⟩ := h
  · exact ⟨none, 0, by rw [h2], by omega, by simp [maxLen], fun hp => by omega⟩
  · refine ⟨_, cap, rfl, hnc, hcm, fun hp => ⟨g, 0, rfl, fun i hi => ?_⟩⟩
    have := World.ownsRow.cellAt h' i (by omega)
    rw [Nat.zero_add, this]
    simp [hi]
theorem OwnN.below {w w' : World} {base B : Nat} {v : Value} {xs : List Int} (h : OwnN w base v xs) (hb : Below B w w') (hB : w.heap.size ≤ B) : OwnN w' base v xs := by
  obtain ⟨h1, h2 | ⟨g, cap, cur, rfl, hbg, hg, r⟩⟩ := h
  · exact ⟨h1, .inl h2⟩
  · exact ⟨h1, .inr ⟨g, cap, cur, rfl, hbg, (hb.block g (by have := (Array.getElem?_eq_some_iff.1 hg).1; omega)).trans hg, r⟩⟩
theorem RdN.below {w w' : World} {B : Nat} {v : Value} {xs : List Int} (h : RdN w v xs) (hb : Below B w w') (hB : w.heap.size ≤ B) : RdN w' v xs := by
  obtain ⟨ao, cap, rfl, h1, h2, h4⟩ := h
  refine ⟨ao, cap, rfl, h1, h2, fun hp => ?_⟩
  obtain ⟨b, off, rfl, hc⟩ := h4 hp
  exact ⟨b, off, rfl, fun i hi => (hb.cell (by have := cell_lt (hc i hi); simp at this ⊢; omega)).trans (hc i hi)⟩

set_option maxHeartbeats 400000 in
theorem eqInts_same (w : World) (a b : Value) (xs : List Int) (ha : RdN w a xs) (hb : RdN w b xs) :
    Calls Try.prog 30 #[a, b] w fun e w' => e = .returned (.bool true) ∧ ∃ n, w' = w.drewN n := by
  obtain ⟨ao, ca, rfl, ha1, ha2, ha3⟩ := ha
  obtain ⟨bo, cb, rfl, hb1, hb2, hb3⟩ := hb
  unfold maxLen at ha2 hb2
  have hne : (((xs.length : Nat) : Int) != ((xs.length : Nat) : Int)) = false := by simp
  go_enter Try.func30, Try.ntmps30
  go_wp2
  go_loopw [5] (fun i wr => ∃ k m : Nat, k ≤ xs.length ∧ i = .int .i64 k ∧ wr = w.drewN m) (fun i _ => xs.length - (intOf i).toNat)
  case atStart => exact ⟨0, 0, by omega, rfl, rfl⟩
  case round =>
    obtain ⟨k, m, hk, rfl, rfl⟩ := hrel
    by_cases hlt : k < xs.length
    · obtain ⟨ab, aoff, rfl, hca⟩ := ha3 (by omega)
      obtain ⟨bb, boff, rfl, hcb⟩ := hb3 (by omega)
      have hca' := hca k hlt
      have hcb' := hcb k hlt
      clear hca hcb ha3 hb3
      generalize xs.getD k 0 = x at hca' hcb'
      have hnx : (x != x) = false := by simp
      go_wp2
      go_quiet (fail)
      go_wp2
      go_roundw
      case rel => exact ⟨k + 1, _, by omega, by go_num, rfl⟩
      case measure => simp [intOf]; omega
    · go_wp2
      go_ret
      exact ⟨rfl, m, rfl⟩

/-- The numbers that a mark writes. -/
def nums (q : Int) (n : Nat) : List Int := (List.range n).map fun (i : Nat) => q + (i : Int)
theorem nums_length (q : Int) (n : Nat) : (nums q n).length = n := by simp [nums]
theorem nums_getD (q : Int) (n i : Nat) (h : i < n) : (nums q n).getD i 0 = q + (i : Int) := by simp [nums, h]
theorem nums_set (q : Int) (xs : List Int) (k : Nat) (hk : k < xs.length) : (nums q k ++ xs.drop k).set k (q + (k : Int)) = nums q (k + 1) ++ xs.drop (k + 1) := by
  have h1 : nums q (k + 1) = nums q k ++ [q + (k : Int)] := by simp [nums, List.range_succ]
  rw [List.set_append_right _ _ (by simp [nums_length]), nums_length, Nat.sub_self, List.drop_eq_getElem_cons hk, List.set_cons_zero, h1, List.append_assoc]
  rfl

set_option maxHeartbeats 400000 in
theorem heldInts_same (w : World) (a : Value) (q : Int) (n : Nat) (h0 : 0 ≤ q) (hq : q + n ≤ 4611686018427387904) (ha : RdN w a (nums q n)) :
    Calls Try.prog 36 #[a, .int .i64 q] w fun e w' => e = .returned (.int .i64 (q + n)) ∧ w' = w := by
  obtain ⟨ao, ca, rfl, ha1, ha2, ha3⟩ := ha
  unfold maxLen at ha2
  rw [nums_length] at *
  go_enter Try.func36, Try.ntmps36
  go_wp2
  go_loop [1, 5] (fun q' i => ∃ k : Nat, k ≤ n ∧ i = .int .i64 k ∧ q' = .int .i64 (q + k)) (fun _ i => n - (intOf i).toNat)
  case atStart => exact ⟨0, by omega, rfl, by simp⟩
  case round =>
    obtain ⟨k, hk, rfl, rfl⟩ := hrel
    by_cases hlt : k < n
    · obtain ⟨ab, aoff, rfl, hca⟩ := ha3 (by omega)
      have hca' := hca k hlt
      rw [nums_getD q n k hlt] at hca'
      clear hca ha3
      have hnx : (q + (k : Int) != q + (k : Int)) = false := by simp
      go_wp2
      go_round
      case rel => exact ⟨k + 1, by omega, by go_num, by go_num⟩
      case measure => simp [intOf]; omega
    · have hkn : k = n := by omega
      subst hkn
      go_wp2
      go_ret
      exact ⟨rfl, rfl⟩

set_option maxHeartbeats 400000 in
theorem markInts_own (w : World) (base : Nat) (a : Value) (q : Int) (xs : List Int) (h0 : 0 ≤ q) (hq : q + xs.length ≤ 4611686018427387904) (ha : OwnN w base a xs) :
    Calls Try.prog 34 #[a, .int .i64 q] w fun e w' => e = .returned (.int .i64 (q + xs.length)) ∧ OwnN w' base a (nums q xs.length) ∧ w.grownBy w' a.ownBlock := by
  obtain ⟨ao, ca, rfl, ha1, ha2, ha3⟩ := ha.rd
  unfold maxLen at ha2
  have HO : Hid (OwnN w base (.slice ao xs.length ca) xs) := ha
  clear ha
  go_enter Try.func34, Try.ntmps34
  go_wp2
  go_loopw [1, 5] (fun q' i wr => ∃ k : Nat, k ≤ xs.length ∧ i = .int .i64 k ∧ q' = .int .i64 (q + k) ∧ Hid (wr.ownsRow base 3 1 (.slice ao xs.length ca) xs.length ((nums q k ++ xs.drop k).map (Value.int .i64)) ∧ w.grownBy wr (Value.slice ao xs.length ca).ownBlock)) (fun _ i _ => xs.length - (intOf i).toNat)
  case atStart => exact ⟨0, by omega, rfl, by simp, hide ⟨by have h := HO.out; unfold OwnN at h; simpa [nums] using h, World.grownBy.refl _ _⟩⟩
  case round =>
    obtain ⟨k, hk, rfl, rfl, HR⟩ := hrel
    by_cases hlt : k < xs.length
    · obtain ⟨ab, aoff, rfl, hca⟩ := ha3 (by omega)
      obtain ⟨hown, hgr⟩ := HR.out
      obtain rfl : aoff = 0 := by
        obtain ⟨_, ⟨e, _⟩ | ⟨g, cap, cur, e, _⟩⟩ := hown
        · simp at e
        · simp at e; exact e.1.2
      have hcell := World.ownsRow.cellAt hown k (by omega)
      have hfz := World.ownsRow.frozenAt hown k
      have hst := World.ownsRow.stored hown k (.int .i64 (q + k))
      have HS : Hid ((wr.setCell ⟨ab, k, none⟩ (.int .i64 (q + k))).ownsRow base 3 1 (.slice (some ⟨ab, 0, none⟩) xs.length ca) xs.length ((nums q (k + 1) ++ xs.drop (k + 1)).map (Value.int .i64)) ∧ w.grownBy (wr.setCell ⟨ab, k, none⟩ (.int .i64 (q + k))) (some ab)) := by
        refine hide ⟨?_, grown_trans hgr hst.2⟩
        have := hst.1
        rw [← List.map_set, nums_set q xs k hlt] at this
        exact this
      have hcell' : ∃ u, wr.cell? ⟨ab, k, none⟩ = some (.int .i64 u) := ⟨(nums q k ++ xs.drop k).getD k 0, by
        rw [hcell, List.getElem?_map, List.getD_eq_getElem?_getD]
        have hl : k < (nums q k ++ xs.drop k).length := by simp [nums_length]; omega
        rw [List.getElem?_eq_getElem hl]; rfl⟩
      obtain ⟨u, hcu⟩ := hcell'
      clear hst hown hgr HR hcell hca ha3
      go_wp2
      go_roundw
      case rel => exact ⟨k + 1, by omega, by go_num, by go_num, HS⟩
      case measure => simp [intOf]; omega
    · have hkn : k = xs.length := by omega
      subst hkn
      go_wp2
      go_ret
      refine ⟨rfl, ?_, HR.out.2⟩
      have := HR.out.1
      rw [List.drop_length, List.append_nil] at this
      unfold OwnN
      rw [nums_length]
      exact this

/-! Pieces of one row of bytes. -/
theorem marks_append (q : Int) (b m : Nat) : marks q b ++ marks (q + b) m = marks q (b + m) := by
  apply List.ext_getElem?
  intro i
  by_cases h1 : i < b
  · rw [List.getElem?_append_left (by rw [marks_length]; exact h1)]
    simp [marks, h1, show i < b + m by omega]
  · rw [List.getElem?_append_right (by rw [marks_length]; omega), marks_length]
    by_cases h2 : i < b + m
    · simp [marks, show i - b < m by omega, h2]
      omega
    · simp [marks, show ¬ i - b < m by omega, h2]
theorem marks_cut (q : Int) (n b e : Nat) (hbe : b ≤ e) (he : e ≤ n) : ((marks q n).take e).drop b = marks (q + b) (e - b) := by
  have h1 : marks q n = marks q e ++ marks (q + e) (n - e) := by rw [marks_append, Nat.add_sub_cancel' he]
  have h2 : marks q e = marks q b ++ marks (q + b) (e - b) := by rw [marks_append, Nat.add_sub_cancel' hbe]
  rw [h1, List.take_left' (by rw [marks_length]), h2, List.drop_left' (by rw [marks_length])]
theorem part_set (A B C : List Int) (q : Int) (k : Nat) (hk : k < B.length) : (A ++ (marks q k ++ B.drop k) ++ C).set (A.length + k) ((q + (k : Int)) % 256) = A ++ (marks q (k + 1) ++ B.drop (k + 1)) ++ C := by
  rw [List.set_append_left _ _ (by simp [marks_length]; omega), List.set_append_right _ _ (by omega), Nat.add_sub_cancel_left, marks_set q B k hk]

set_option maxHeartbeats 800000 in
theorem markPart (w : World) (base : Nat) (ao : Option Addr) (ca : Nat) (q : Int) (A B C : List Int) (h0 : 0 ≤ q) (hq : q + B.length ≤ 4611686018427387904) (ha : Own w base (.slice ao (A ++ B ++ C).length ca) (A ++ B ++ C)) :
    Calls Try.prog 15 #[pieceV ao A.length (A.length + B.length), .int .i64 q] w fun e w' => e = .returned (.int .i64 (q + B.length)) ∧ Own w' base (.slice ao (A ++ B ++ C).length ca) (A ++ marks q B.length ++ C) ∧ w.grownBy w' (Value.slice ao (A ++ B ++ C).length ca).ownBlock := by
  have hN : A.length + B.length ≤ 9223372036854775807 := by
    obtain ⟨ao', ca', e, h1, h2, _⟩ := ha.rd
    unfold maxLen at h2
    simp only [List.length_append] at h1
    omega
  have hBd : (∀ x ∈ A, 0 ≤ x ∧ x ≤ 255) ∧ ∀ x ∈ C, 0 ≤ x ∧ x ≤ 255 := ⟨fun x hx => ha.1 x (by simp [hx]), fun x hx => ha.1 x (by simp [hx])⟩
  have HBd : Hid ((∀ x ∈ A, 0 ≤ x ∧ x ≤ 255) ∧ ∀ x ∈ C, 0 ≤ x ∧ x ≤ 255) := hBd
  clear hBd
  by_cases hB : B.length = 0
  · have hBn : B = [] := List.length_eq_zero_iff.1 hB
    subst hBn
    have HO : Hid (Own w base (.slice ao (A ++ [] ++ C).length ca) (A ++ marks q 0 ++ C)) := by unfold Hid; simpa [marks] using ha
    have hp : pieceV ao A.length (A.length + ([] : List Int).length) = .slice ao 0 0 := by unfold pieceV; simp
    rw [hp]
    clear ha hp
    go_enter Try.func15, Try.ntmps15
    go_wp2
    go_loopw [1, 5] (fun q' i wr => i = .int .i64 0 ∧ q' = .int .i64 q ∧ wr = w) (fun _ _ _ => 0)
    case atStart => exact ⟨rfl, rfl, rfl⟩
    case round =>
      obtain ⟨rfl, rfl, rfl⟩ := hrel
      go_wp2
      go_ret
      exact ⟨ret_int (by simp), HO.out, World.grownBy.refl _ _⟩
  · obtain ⟨_, h1, ⟨e, hl0⟩ | ⟨g, cap, cur, e, hbg, hg, hnc, hcm, hcs, htake⟩⟩ := id ha
    · simp only [List.length_append] at hl0; omega
    · simp only [Value.slice.injEq] at e
      obtain ⟨rfl, _, rfl⟩ := e
      have hp : pieceV (some ⟨g, 0, none⟩) A.length (A.length + B.length) = .slice (some ⟨g, A.length, none⟩) B.length B.length := by
        unfold pieceV
        rw [if_neg (by omega)]
        simp [add_at]
      rw [hp]
      have HO : Hid (w.ownsRow base 5 1 (.slice (some ⟨g, 0, none⟩) (A ++ B ++ C).length ca) (A ++ B ++ C).length ((A ++ (marks q 0 ++ B.drop 0) ++ C).map (Value.int .u8))) := by unfold Hid; simpa [marks] using ha.2
      generalize hLn : (A ++ B ++ C).length = Ln at HO ⊢
      have HLn : Hid (A.length + B.length + C.length = Ln) := by unfold Hid; rw [← hLn]; simp only [List.length_append]
      clear ha hp h1 hg hcs htake hLn
      go_enter Try.func15, Try.ntmps15
      go_wp2
      go_loopw [1, 5] (fun q' i wr => ∃ k : Nat, k ≤ B.length ∧ i = .int .i64 k ∧ q' = .int .i64 (q + k) ∧ Hid (wr.ownsRow base 5 1 (.slice (some ⟨g, 0, none⟩) Ln ca) Ln ((A ++ (marks q k ++ B.drop k) ++ C).map (Value.int .u8)) ∧ w.grownBy wr (some g))) (fun _ i _ => B.length - (intOf i).toNat)
      case atStart => exact ⟨0, by omega, rfl, by simp, hide ⟨HO.out, World.grownBy.refl _ _⟩⟩
      case round =>
        obtain ⟨k, hk, rfl, rfl, HR⟩ := hrel
        by_cases hlt : k < B.length
        · obtain ⟨hown, hgr⟩ := HR.out
          have hcell := World.ownsRow.cellAt hown (A.length + k) (by have := HLn.out; omega)
          have hfz := World.ownsRow.frozenAt hown (A.length + k)
          have hst := World.ownsRow.stored hown (A.length + k) (.int .u8 ((q + k) % 256))
          have HS : Hid ((wr.setCell ⟨g, A.length + k, none⟩ (.int .u8 ((q + k) % 256))).ownsRow base 5 1 (.slice (some ⟨g, 0, none⟩) Ln ca) Ln ((A ++ (marks q (k + 1) ++ B.drop (k + 1)) ++ C).map (Value.int .u8)) ∧ w.grownBy (wr.setCell ⟨g, A.length + k, none⟩ (.int .u8 ((q + k) % 256))) (some g)) := by
            refine hide ⟨?_, grown_trans hgr hst.2⟩
            have := hst.1
            rw [← List.map_set, part_set A B C q k hlt] at this
            exact this
          have hcell' : ∃ u, wr.cell? ⟨g, A.length + k, none⟩ = some (.int .u8 u) := ⟨(A ++ (marks q k ++ B.drop k) ++ C).getD (A.length + k) 0, by
            rw [hcell, List.getElem?_map, List.getD_eq_getElem?_getD]
            have hl : A.length + k < (A ++ (marks q k ++ B.drop k) ++ C).length := by simp [marks_length]; omega
            rw [List.getElem?_eq_getElem hl]; rfl⟩
          obtain ⟨u, hcu⟩ := hcell'
          clear hst hown hgr HR hcell
          go_wp2
          go_roundw
          case rel => exact ⟨k + 1, by omega, by go_num, by go_num, HS⟩
          case measure => simp [intOf]; omega
        · have hkn : k = B.length := by omega
          subst hkn
          go_wp2
          go_ret
          refine ⟨rfl, ⟨?_, ?_⟩, HR.out.2⟩
          · intro x hx
            simp only [List.mem_append] at hx
            rcases hx with (hx | hx) | hx
            · exact HBd.out.1 x hx
            · exact marks_bd _ _ x hx
            · exact HBd.out.2 x hx
          · have := HR.out.1
            rw [List.drop_length, List.append_nil] at this
            have hll : (A ++ marks q B.length ++ C).length = Ln := by rw [← HLn.out]; simp [marks_length]; omega
            rw [hll]
            exact this
end Go.Proofs.Ytipcdioolafkpaf.piecemarks

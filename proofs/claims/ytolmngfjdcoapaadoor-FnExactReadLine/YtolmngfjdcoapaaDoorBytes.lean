/- Contracts of the laws' own helpers on slices of bytes: equal, marked, held, copied. -/
import Derived.Test.YtolmngfjdcoapaaDoorRows
import Derived.WalkKit
import Derived.ProofKit
import Derived.WalkSpells
import Derived.Below
import Derived.WalkSmall
import Derived.Laws.OwnMore
import Derived.Deep.QuietTactic
import Derived.BigQuiet
import Derived.Outline
namespace Go.Proofs.YtolmngfjdcoapaaDoor.bytes
open Go.ChangeShapes Go.WideShapes Go.ChangeAt Go.RowKit
set_option linter.unusedVariables false

theorem hide {p : Prop} (h : p) : Hid p := h
theorem ret_bool {a b : Bool} (h : a = b) : Ending.returned (.bool a) = .returned (.bool b) := by rw [h]
theorem ret_int {k : IntKind} {a b : Int} (h : a = b) : Ending.returned (.int k a) = .returned (.int k b) := by rw [h]

/-- The slice value v reads, in world w, as the bytes xs. -/
def Rd (w : World) (v : Value) (xs : List Int) : Prop :=
  ∃ ao cap, v = .slice ao xs.length cap ∧ xs.length ≤ cap ∧ cap ≤ maxLen ∧ (∀ x ∈ xs, 0 ≤ x ∧ x ≤ 255) ∧
    (0 < xs.length → ∃ b off, ao = some ⟨b, off, none⟩ ∧ ∀ i, i < xs.length → w.cell? ⟨b, off + i, none⟩ = some (.int .u8 (xs.getD i 0)))

/-- The slice value v owns, in world w, a row of the bytes xs, in a block from base on. -/
def Own (w : World) (base : Nat) (v : Value) (xs : List Int) : Prop :=
  (∀ x ∈ xs, 0 ≤ x ∧ x ≤ 255) ∧ w.ownsRow base 5 1 v xs.length (xs.map (Value.int .u8))

theorem Own.rd {w : World} {base : Nat} {v : Value} {xs : List Int} (h : Own w base v xs) : Rd w v xs := by
  obtain ⟨hx, h⟩ := h
  have h' := h
  obtain ⟨h1, ⟨rfl, h2⟩ | ⟨g, cap, cur, rfl, hb, hg, hnc, hcm, hcs, htake⟩⟩ := h
  · exact ⟨none, 0, by rw [h2], by omega, by simp [maxLen], hx, fun hp => by omega⟩
  · refine ⟨_, cap, rfl, hnc, hcm, hx, fun hp => ⟨g, 0, rfl, fun i hi => ?_⟩⟩
    have := World.ownsRow.cellAt h' i (by omega)
    rw [Nat.zero_add, this]
    simp [hi]

theorem Own.lt {w : World} {base : Nat} {v : Value} {xs : List Int} (h : Own w base v xs) : ∀ k, v.ownBlock = some k → base ≤ k ∧ k < w.heap.size := World.ownsRow.lt h.2

theorem Own.below {w w' : World} {base B : Nat} {v : Value} {xs : List Int} (h : Own w base v xs) (hb : Below B w w') (hB : w.heap.size ≤ B) : Own w' base v xs := by
  refine ⟨h.1, ?_⟩
  obtain ⟨h1, h2 | ⟨g, cap, cur, rfl, hbg, hg, hnc, hcm, hcs, htake⟩⟩ := h.2
  · exact ⟨h1, .inl h2⟩
  · have hlt := (h.lt g rfl).2
    exact ⟨h1, .inr ⟨g, cap, cur, rfl, hbg, (hb.block g (by omega)).trans hg, hnc, hcm, hcs, htake⟩⟩

theorem Own.mono {w : World} {base base' : Nat} {v : Value} {xs : List Int} (h : Own w base v xs) (hb : base' ≤ base) : Own w base' v xs := by
  refine ⟨h.1, ?_⟩
  obtain ⟨h1, h2 | ⟨g, cap, cur, rfl, hbg, r⟩⟩ := h.2
  · exact ⟨h1, .inl h2⟩
  · exact ⟨h1, .inr ⟨g, cap, cur, rfl, by omega, r⟩⟩

theorem cell_lt {w : World} {a : Addr} {v : Value} (h : w.cell? a = some v) : a.block < w.heap.size := by
  simp only [World.cell?] at h
  cases e : w.heap[a.block]? with
  | none => simp [e] at h
  | some o => exact (Array.getElem?_eq_some_iff.1 e).1

theorem Rd.below {w w' : World} {B : Nat} {v : Value} {xs : List Int} (h : Rd w v xs) (hb : Below B w w') (hB : w.heap.size ≤ B) : Rd w' v xs := by
  obtain ⟨ao, cap, rfl, h1, h2, h3, h4⟩ := h
  refine ⟨ao, cap, rfl, h1, h2, h3, fun hp => ?_⟩
  obtain ⟨b, off, rfl, hc⟩ := h4 hp
  exact ⟨b, off, rfl, fun i hi => (hb.cell (by have := cell_lt (hc i hi); simp at this ⊢; omega)).trans (hc i hi)⟩

theorem grown_trans {a b c : World} {row : Option Nat} (h : a.grownBy b row) (k : b.grownBy c row) : a.grownBy c row :=
  ⟨k.os.trans h.os, k.tape.trans h.tape, k.output.trans h.output, Nat.le_trans h.size k.size, fun i hi hr => (k.block i (by have := h.size; omega) hr).trans (h.block i hi hr)⟩

theorem getD_bd {xs : List Int} (h : ∀ x ∈ xs, 0 ≤ x ∧ x ≤ 255) (k : Nat) : 0 ≤ xs.getD k 0 ∧ xs.getD k 0 ≤ 255 := by
  rw [List.getD_eq_getElem?_getD]
  by_cases hk : k < xs.length
  · rw [List.getElem?_eq_getElem hk]; exact h _ (List.getElem_mem hk)
  · rw [List.getElem?_eq_none (by omega)]; simp

set_option maxHeartbeats 400000 in
theorem eq_same (w : World) (a b : Value) (xs : List Int) (ha : Rd w a xs) (hb : Rd w b xs) :
    Calls Tryd.prog 15 #[a, b] w fun e w' => e = .returned (.bool true) ∧ ∃ n, w' = w.drewN n := by
  obtain ⟨ao, ca, rfl, ha1, ha2, hx, ha3⟩ := ha
  obtain ⟨bo, cb, rfl, hb1, hb2, _, hb3⟩ := hb
  unfold maxLen at ha2 hb2
  have hne : (((xs.length : Nat) : Int) != ((xs.length : Nat) : Int)) = false := by simp
  go_enter Tryd.func15, Tryd.ntmps15
  go_wp2
  go_loopw [5] (fun i wr => ∃ k m : Nat, k ≤ xs.length ∧ i = .int .i64 k ∧ wr = w.drewN m) (fun i _ => xs.length - (intOf i).toNat)
  case atStart => exact ⟨0, 0, by omega, rfl, rfl⟩
  case round =>
    obtain ⟨k, m, hk, rfl, rfl⟩ := hrel
    by_cases hlt : k < xs.length
    · obtain ⟨ab, aoff, rfl, hca⟩ := ha3 (by omega)
      obtain ⟨bb, boff, rfl, hcb⟩ := hb3 (by omega)
      have hca' := hca k hlt
      have hcb' := hcb k hlt
      clear hca hcb ha3 hb3
      go_wp2
      go_quiet (fail)
      go_wp2
      go_roundw
      case rel => exact ⟨k + 1, _, by omega, by go_num, rfl⟩
      case measure => simp [intOf]; omega
    · go_wp2
      go_ret
      exact ⟨rfl, m, rfl⟩
/-- The bytes that a mark writes: k, k + 1, .. -/
def marks (k : Int) (n : Nat) : List Int := (List.range n).map fun (i : Nat) => (k + (i : Int)) % 256
theorem marks_length (k : Int) (n : Nat) : (marks k n).length = n := by simp [marks]
theorem marks_getD (k : Int) (n i : Nat) (h : i < n) : (marks k n).getD i 0 = (k + (i : Int)) % 256 := by simp [marks, h]
theorem marks_bd (k : Int) (n : Nat) : ∀ x ∈ marks k n, 0 ≤ x ∧ x ≤ 255 := by
  intro x hx
  simp only [marks, List.mem_map, List.mem_range] at hx
  obtain ⟨i, _, rfl⟩ := hx
  omega

set_option maxHeartbeats 400000 in
theorem held_same (w : World) (a : Value) (q : Int) (n : Nat) (h0 : 0 ≤ q) (hq : q + n ≤ 4611686018427387904) (ha : Rd w a (marks q n)) :
    Calls Tryd.prog 17 #[a, .int .i64 q] w fun e w' => e = .returned (.int .i64 (q + n)) ∧ w' = w := by
  obtain ⟨ao, ca, rfl, ha1, ha2, hx, ha3⟩ := ha
  unfold maxLen at ha2
  rw [marks_length] at *
  go_enter Tryd.func17, Tryd.ntmps17
  go_wp2
  go_loop [1, 5] (fun q' i => ∃ k : Nat, k ≤ n ∧ i = .int .i64 k ∧ q' = .int .i64 (q + k)) (fun _ i => n - (intOf i).toNat)
  case atStart => exact ⟨0, by omega, rfl, by simp⟩
  case round =>
    obtain ⟨k, hk, rfl, rfl⟩ := hrel
    by_cases hlt : k < n
    · obtain ⟨ab, aoff, rfl, hca⟩ := ha3 (by omega)
      have hca' := hca k hlt
      rw [marks_getD q n k hlt] at hca'
      clear hca ha3
      go_wp2
      go_round
      case rel => exact ⟨k + 1, by omega, by go_num, by go_num⟩
      case measure => simp [intOf]; omega
    · have hkn : k = n := by omega
      subst hkn
      go_wp2
      go_ret
      exact ⟨rfl, rfl⟩
theorem marks_set (q : Int) (xs : List Int) (k : Nat) (hk : k < xs.length) :
    (marks q k ++ xs.drop k).set k ((q + (k : Int)) % 256) = marks q (k + 1) ++ xs.drop (k + 1) := by
  have h1 : marks q (k + 1) = marks q k ++ [(q + (k : Int)) % 256] := by simp [marks, List.range_succ]
  rw [List.set_append_right _ _ (by simp [marks_length]), marks_length, Nat.sub_self, List.drop_eq_getElem_cons hk, List.set_cons_zero, h1, List.append_assoc]
  rfl

set_option maxHeartbeats 400000 in
theorem mark_own (w : World) (base : Nat) (a : Value) (q : Int) (xs : List Int) (h0 : 0 ≤ q) (hq : q + xs.length ≤ 4611686018427387904) (ha : Own w base a xs) :
    Calls Tryd.prog 16 #[a, .int .i64 q] w fun e w' => e = .returned (.int .i64 (q + xs.length)) ∧ Own w' base a (marks q xs.length) ∧ w.grownBy w' a.ownBlock := by
  have hrd := ha.rd
  obtain ⟨ao, ca, rfl, ha1, ha2, hx, ha3⟩ := hrd
  unfold maxLen at ha2
  have HO : Hid (Own w base (.slice ao xs.length ca) xs) := ha
  clear ha
  go_enter Tryd.func16, Tryd.ntmps16
  go_wp2
  go_loopw [1, 5] (fun q' i wr => ∃ k : Nat, k ≤ xs.length ∧ i = .int .i64 k ∧ q' = .int .i64 (q + k) ∧ Hid (wr.ownsRow base 5 1 (.slice ao xs.length ca) xs.length ((marks q k ++ xs.drop k).map (Value.int .u8)) ∧ w.grownBy wr (Value.slice ao xs.length ca).ownBlock)) (fun _ i _ => xs.length - (intOf i).toNat)
  case atStart => exact ⟨0, by omega, rfl, by simp, hide ⟨by simpa [marks] using HO.out.2, World.grownBy.refl _ _⟩⟩
  case round =>
    obtain ⟨k, hk, rfl, rfl, HR⟩ := hrel
    by_cases hlt : k < xs.length
    · obtain ⟨ab, aoff, rfl, hca⟩ := ha3 (by omega)
      obtain ⟨hown, hgr⟩ := HR.out
      obtain rfl : aoff = 0 := by
        obtain ⟨_, ⟨e, _⟩ | ⟨g, cap, cur, e, _⟩⟩ := hown
        · simp at e
        · simp at e; exact e.1.2
      have hcell := World.ownsRow.cellAt hown k (by omega)
      have hfz := World.ownsRow.frozenAt hown k
      have hst := World.ownsRow.stored hown k (.int .u8 ((q + k) % 256))
      have HS : Hid ((wr.setCell ⟨ab, k, none⟩ (.int .u8 ((q + k) % 256))).ownsRow base 5 1 (.slice (some ⟨ab, 0, none⟩) xs.length ca) xs.length ((marks q (k + 1) ++ xs.drop (k + 1)).map (Value.int .u8)) ∧ w.grownBy (wr.setCell ⟨ab, k, none⟩ (.int .u8 ((q + k) % 256))) (some ab)) := by
        refine hide ⟨?_, grown_trans hgr hst.2⟩
        have := hst.1
        rw [← List.map_set, marks_set q xs k hlt] at this
        exact this
      have hcell' : ∃ u, wr.cell? ⟨ab, k, none⟩ = some (.int .u8 u) := ⟨(marks q k ++ xs.drop k).getD k 0, by
        rw [hcell, List.getElem?_map, List.getD_eq_getElem?_getD]
        have hl : k < (marks q k ++ xs.drop k).length := by simp [marks_length]; omega
        rw [List.getElem?_eq_getElem hl]; rfl⟩
      obtain ⟨u, hcu⟩ := hcell'
      clear hst hown hgr HR hcell hca ha3
      go_wp2
      go_roundw
      case rel => exact ⟨k + 1, by omega, by go_num, by go_num, HS⟩
      case measure => simp [intOf]; omega
    · have hkn : k = xs.length := by omega
      subst hkn
      go_wp2
      go_ret
      refine ⟨rfl, ⟨marks_bd _ _, ?_⟩, HR.out.2⟩
      have := HR.out.1
      rw [List.drop_length, List.append_nil] at this
      rw [marks_length]
      exact this
theorem info5 : (Tryd.prog.info? 5).map (fun i => (i.zero, i.size, i.bytes)) = some (some (.int .u8 0), 1, 1) := by kernel_rfl

end Go.Proofs.YtolmngfjdcoapaaDoor.bytes

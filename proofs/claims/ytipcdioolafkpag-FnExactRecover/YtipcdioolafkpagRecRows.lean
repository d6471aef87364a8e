/- Rows of records: what is read, what is owned; the laws' own helpers on them: how large, copied, equal. -/
import Derived.Test.YtipcdioolafkpagRecHelp
import Derived.Deep.RegionHeldLaw
import Derived.Deep.RegionLaw
namespace Go.Proofs.Ytipcdioolafkpag.recrows
open Go.ChangeShapes Go.WideShapes Go.ChangeAt Go.RowKit
open Go.Proofs.Ytipcdioolafkpag.bytes Go.Proofs.Ytipcdioolafkpag.pile Go.Proofs.Ytipcdioolafkpag.put Go.Proofs.Ytipcdioolafkpag.crcs Go.Proofs.Ytipcdioolafkpag.join Go.Proofs.Ytipcdioolafkpag.frames Go.Proofs.Ytipcdioolafkpag.votes Go.Proofs.Ytipcdioolafkpag.pays Go.Proofs.Ytipcdioolafkpag.rechelp
set_option linter.unusedVariables false

/-- A record. -/
structure Rec3 where
  t : Int
  i : Int
  d : List Int
def zRec : Rec3 := ⟨0, 0, []⟩

/-- How many bytes the first k records have. -/
def sumTo (rl : List Rec3) (k : Nat) : Nat := ((rl.take k).map fun r => r.d.length).sum
theorem sumTo_succ {rl : List Rec3} {k : Nat} (h : k < rl.length) : sumTo rl (k + 1) = sumTo rl k + (rl.getD k zRec).d.length := by
  have e : rl.getD k zRec = rl[k] := by simp [List.getD_eq_getElem?_getD, h]
  unfold sumTo
  rw [List.take_succ_eq_append_getElem h, e, List.map_append, List.sum_append]
  rfl
theorem sumTo_le (rl : List Rec3) (k : Nat) : sumTo rl k ≤ sumTo rl rl.length := by
  unfold sumTo
  rw [List.take_length]
  have : rl = rl.take k ++ rl.drop k := (List.take_append_drop k rl).symm
  conv => rhs; rw [this, List.map_append, List.sum_append]
  omega
theorem each_le {rl : List Rec3} {k : Nat} (h : k < rl.length) : (rl.getD k zRec).d.length ≤ sumTo rl rl.length := by
  have h1 := sumTo_succ h
  have h2 := sumTo_le rl (k + 1)
  omega

/-- The slice value v reads, in world w, as these records, whose bytes are the values us. -/
structure RdRecs (w : World) (v : Value) (rl : List Rec3) (us : List Value) : Prop where
  len : us.length = rl.length
  row : ∃ ao cap, v = .slice ao rl.length cap ∧ rl.length ≤ cap ∧ cap ≤ maxLen ∧ (0 < rl.length → ∃ b off, ao = some ⟨b, off, none⟩ ∧ ∀ k, k < rl.length → w.cell? ⟨b, off + k * 3, none⟩ = some (.int .i64 (rl.getD k zRec).t) ∧ w.cell? ⟨b, off + k * 3 + 1, none⟩ = some (.int .i64 (rl.getD k zRec).i) ∧ w.cell? ⟨b, off + k * 3 + 2, none⟩ = some (us.getD k (.slice none 0 0)))
  each : ∀ k, k < rl.length → RdA w (us.getD k (.slice none 0 0)) (rl.getD k zRec).d
theorem RdRecs.below {w w' : World} {B : Nat} {v : Value} {rl : List Rec3} {us : List Value} (h : RdRecs w v rl us) (hb : Below B w w') (hB : w.heap.size ≤ B) : RdRecs w' v rl us where
  len := h.len
  row := by
    obtain ⟨ao, cap, rfl, h1, h2, h4⟩ := h.row
    refine ⟨ao, cap, rfl, h1, h2, fun hp => ?_⟩
    obtain ⟨b, off, rfl, hc⟩ := h4 hp
    exact ⟨b, off, rfl, fun k hk => ⟨cell_at hb (hc k hk).1 hB, cell_at hb (hc k hk).2.1 hB, cell_at hb (hc k hk).2.2 hB⟩⟩
  each := fun k hk => (h.each k hk).below hb hB

/-- The slice value v owns, in world w, these records and their bytes, in blocks from base on. -/
structure OwnRecs (w : World) (base : Nat) (v : Value) (rl : List Rec3) (us : List Value) : Prop where
  len : us.length = rl.length
  row : ∃ ao cap, v = .slice ao rl.length cap ∧ rl.length ≤ cap ∧ cap ≤ maxLen ∧ (0 < rl.length → ∃ g off cur, ao = some ⟨g, off, none⟩ ∧ base ≤ g ∧ w.heap[g]? = some (.cells cur 43 (0, 0)) ∧ ∀ k, k < rl.length → cur[off + k * 3]? = some (.int .i64 (rl.getD k zRec).t) ∧ cur[off + k * 3 + 1]? = some (.int .i64 (rl.getD k zRec).i) ∧ cur[off + k * 3 + 2]? = some (us.getD k (.slice none 0 0)))
  each : ∀ k, k < rl.length → Own w base (us.getD k (.slice none 0 0)) (rl.getD k zRec).d
  apart : ∀ j k, j < rl.length → k < rl.length → j ≠ k → ∀ b, (us.getD j (.slice none 0 0)).ownBlock = some b → (us.getD k (.slice none 0 0)).ownBlock ≠ some b
theorem OwnRecs.rd {w : World} {base : Nat} {v : Value} {rl : List Rec3} {us : List Value} (h : OwnRecs w base v rl us) : RdRecs w v rl us where
  len := h.len
  row := by
    obtain ⟨ao, cap, rfl, h1, h2, h4⟩ := h.row
    refine ⟨ao, cap, rfl, h1, h2, fun hp => ?_⟩
    obtain ⟨g, off, cur, rfl, _, hg, hc⟩ := h4 hp
    exact ⟨g, off, rfl, fun k hk => ⟨cell_of hg (hc k hk).1, cell_of hg (hc k hk).2.1, cell_of hg (hc k hk).2.2⟩⟩
  each := fun k hk => Own.rdA (h.each k hk)
theorem OwnRecs.below {w w' : World} {base B : Nat} {v : Value} {rl : List Rec3} {us : List Value} (h : OwnRecs w base v rl us) (hb : Below B w w') (hB : w.heap.size ≤ B) : OwnRecs w' base v rl us where
  len := h.len
  row := by
    obtain ⟨ao, cap, rfl, h1, h2, h4⟩ := h.row
    refine ⟨ao, cap, rfl, h1, h2, fun hp => ?_⟩
    obtain ⟨g, off, cur, rfl, hbg, hg, hc⟩ := h4 hp
    exact ⟨g, off, cur, rfl, hbg, kept hb hg hB, hc⟩
  each := fun k hk => (h.each k hk).below hb hB
  apart := h.apart
theorem OwnRecs.mono {w : World} {base base' : Nat} {v : Value} {rl : List Rec3} {us : List Value} (h : OwnRecs w base v rl us) (hb : base' ≤ base) : OwnRecs w base' v rl us where
  len := h.len
  row := by
    obtain ⟨ao, cap, rfl, h1, h2, h4⟩ := h.row
    refine ⟨ao, cap, rfl, h1, h2, fun hp => ?_⟩
    obtain ⟨g, off, cur, rfl, hbg, hg, hc⟩ := h4 hp
    exact ⟨g, off, cur, rfl, by omega, hg, hc⟩
  each := fun k hk => (h.each k hk).mono hb
  apart := h.apart

set_option maxHeartbeats 1000000 in
theorem szRecS_any (w : World) (v : Value) (rl : List Rec3) (us : List Value) (n : Int) (h0 : 0 ≤ n) (h1 : n ≤ 1048576) (hv : RdRecs w v rl us) :
    Calls Try.prog 61 #[v, .int .i64 n] w fun e w' => (∃ r : Int, e = .returned (.int .i64 r) ∧ (r < 0 ∨ (0 ≤ r ∧ r + rl.length + sumTo rl rl.length = n))) ∧ Below w.heap.size w w' := by
  have HV : Hid (RdRecs w v rl us) := hv
  obtain ⟨T, hT⟩ : ∃ T, T = sumTo rl rl.length := ⟨_, rfl⟩
  have HTT : Hid (T = sumTo rl rl.length) := hT
  rw [← hT]
  clear hT
  obtain ⟨ao, ca, rfl, ha1, ha2, ha3⟩ := hv.row
  clear hv
  unfold maxLen at ha2
  by_cases hc : n - (rl.length : Int) < 0
  · go_enter Try.func61, Try.ntmps61
    go_wp2
    go_ret
    exact ⟨⟨_, rfl, .inl (by omega)⟩, Below.refl _ _⟩
  · go_enter Try.func61, Try.ntmps61
    go_wp2
    go_loopw [1, 5] (fun q' i wr => ∃ (k : Nat) (q : Int), k ≤ rl.length ∧ i = .int .i64 k ∧ q' = .int .i64 q ∧ 0 ≤ q ∧ q ≤ 1048576 ∧ Hid (q + rl.length + sumTo rl k = n ∧ Below w.heap.size w wr)) (fun _ i _ => rl.length - (intOf i).toNat)
    case atStart => exact ⟨0, n - rl.length, by omega, rfl, by go_num, by omega, by omega, hide ⟨by simp [sumTo], Below.refl _ _⟩⟩
    case round =>
      obtain ⟨k, q, hk, rfl, rfl, hq0, hq1, HQ⟩ := hrel
      by_cases hlt : k < rl.length
      · obtain ⟨ab, aoff, rfl, hca⟩ := ha3 (by omega)
        obtain ⟨g0, g1, g2⟩ := hca k hlt
        have c0 := cell_at HQ.out.2 g0 (Nat.le_refl _)
        have c1 := cell_at HQ.out.2 g1 (Nat.le_refl _)
        have c2 := cell_at HQ.out.2 g2 (Nat.le_refl _)
        have HS : Hid (sumTo rl (k + 1) = sumTo rl k + (rl.getD k zRec).d.length) := sumTo_succ hlt
        have HR : Hid (RdA wr (us.getD k (.slice none 0 0)) (rl.getD k zRec).d) := (HV.out.each k hlt).below HQ.out.2 (Nat.le_refl _)
        clear hca ha3 g0 g1 g2
        generalize (us.getD k (.slice none 0 0)) = u at c2 HR
        generalize rl.getD k zRec = r at c0 c1 HR HS
        obtain ⟨t, i, ys⟩ := r
        simp only at c0 c1 HR HS
        obtain ⟨⟨uo, uc, rfl, _⟩, _⟩ := HR.out
        go_wp2_with fail
        refine (szRec_any wr t i _ ys q hq0 hq1 HR.out).mono ?_
        rintro e w1 ⟨⟨r, rfl, hr⟩, b1⟩
        have HB1 : Hid (Below w.heap.size w w1) := HQ.out.2.trans (b1.mono HQ.out.2.size)
        clear b1
        rcases hr with hr | ⟨hr, hsum⟩
        · go_wp2
          go_ret
          exact ⟨⟨_, rfl, .inl (by omega)⟩, HB1.out⟩
        · have hr' : ¬ r < 0 := by omega
          have HE : Hid (r + rl.length + sumTo rl (k + 1) = n) := by have h1 := HQ.out.1; have h2 := HS.out; show _ = _; omega
          have hrm : r ≤ 1048576 := by omega
          clear hsum
          go_wp2
          go_roundw
          case rel => exact ⟨k + 1, r, by omega, by go_num, rfl, by omega, by omega, hide ⟨HE.out, HB1.out⟩⟩
          case measure => simp [intOf]; omega
      · have HE : Hid (q + rl.length + T = n ∧ Below w.heap.size w wr) := by
          have := HQ.out
          rw [show k = rl.length by omega, ← HTT.out] at this
          exact this
        go_wp2
        go_ret
        exact ⟨⟨_, rfl, .inr ⟨hq0, HE.out.1⟩⟩, HE.out.2⟩

theorem get3_other {cur : Array Value} {p m : Nat} {a b c : Value} (h : m < p ∨ p + 2 < m) : (((cur.setIfInBounds p a).setIfInBounds (p + 1) b).setIfInBounds (p + 2) c)[m]? = cur[m]? := by
  rw [Array.getElem?_setIfInBounds_ne (by omega), Array.getElem?_setIfInBounds_ne (by omega), Array.getElem?_setIfInBounds_ne (by omega)]
theorem get3_0 {cur : Array Value} {p : Nat} {a b c : Value} (h : p + 2 < cur.size) : (((cur.setIfInBounds p a).setIfInBounds (p + 1) b).setIfInBounds (p + 2) c)[p]? = some a := by
  rw [Array.getElem?_setIfInBounds_ne (by omega), Array.getElem?_setIfInBounds_ne (by omega), Array.getElem?_setIfInBounds_self_of_lt (by omega)]
theorem get3_1 {cur : Array Value} {p : Nat} {a b c : Value} (h : p + 2 < cur.size) : (((cur.setIfInBounds p a).setIfInBounds (p + 1) b).setIfInBounds (p + 2) c)[p + 1]? = some b := by
  rw [Array.getElem?_setIfInBounds_ne (by omega), Array.getElem?_setIfInBounds_self_of_lt (by simp; omega)]
theorem get3_2 {cur : Array Value} {p : Nat} {a b c : Value} (h : p + 2 < cur.size) : (((cur.setIfInBounds p a).setIfInBounds (p + 1) b).setIfInBounds (p + 2) c)[p + 2]? = some c := by
  rw [Array.getElem?_setIfInBounds_self_of_lt (by simp; omega)]

/-- The first k of n records are laid, the others are zero. -/
structure RowK (cur : Array Value) (rl : List Rec3) (us : List Value) (n k : Nat) : Prop where
  size : cur.size = n * 3
  laid : ∀ j, j < k → cur[j * 3]? = some (.int .i64 (rl.getD j zRec).t) ∧ cur[j * 3 + 1]? = some (.int .i64 (rl.getD j zRec).i) ∧ cur[j * 3 + 2]? = some (us.getD j (.slice none 0 0))
  zero : ∀ j, k ≤ j → j < n → cur[j * 3]? = some (.int .i64 0) ∧ cur[j * 3 + 1]? = some (.int .i64 0) ∧ cur[j * 3 + 2]? = some (.slice none 0 0)
theorem RowK.step {cur : Array Value} {rl : List Rec3} {us : List Value} {n k : Nat} (h : RowK cur rl us n k) (hk : k < n) (hu : us.length = k) (u : Value) :
    RowK (((cur.setIfInBounds (k * 3) (.int .i64 (rl.getD k zRec).t)).setIfInBounds (k * 3 + 1) (.int .i64 (rl.getD k zRec).i)).setIfInBounds (k * 3 + 2) u) rl (us ++ [u]) n (k + 1) where
  size := by simpa using h.size
  laid := fun j hj => by
    have hs := h.size
    by_cases e : j = k
    · subst e
      have e1 : (us ++ [u]).getD j (.slice none 0 0) = u := by subst hu; simp [List.getD_eq_getElem?_getD]
      rw [e1]
      exact ⟨get3_0 (by omega), get3_1 (by omega), get3_2 (by omega)⟩
    · have e1 : (us ++ [u]).getD j (.slice none 0 0) = us.getD j (.slice none 0 0) := by simp [List.getD_eq_getElem?_getD, List.getElem?_append_left (show j < us.length by omega)]
      rw [e1, get3_other (by omega), get3_other (by omega), get3_other (by omega)]
      exact h.laid j (by omega)
  zero := fun j hj hn => by
    rw [get3_other (by omega), get3_other (by omega), get3_other (by omega)]
    exact h.zero j (by omega) hn

theorem info43 : (Try.prog.info? 43).map (fun i => (i.zero, i.size, i.bytes)) = some (some (.agg #[.int .i64 0, .int .i64 0, .slice none 0 0]), 3, 40) := by kernel_rfl
theorem made3 (n : Nat) {cur : Array Value} (hs : cur.size = n * 3) (h : cur.toList.take (n * 3) = (madeCells (Value.agg #[.int .i64 0, .int .i64 0, .slice none 0 0]).cells (n * 3)).toList) : RowK cur [] [] n 0 := by
  have hc : cur.toList = (madeCells (Value.agg #[.int .i64 0, .int .i64 0, .slice none 0 0]).cells (n * 3)).toList := by
    rw [← h, List.take_of_length_le (by simp [hs])]
  have hcur : cur = madeCells (Value.agg #[.int .i64 0, .int .i64 0, .slice none 0 0]).cells (n * 3) := Array.toList_inj.1 hc
  refine ⟨hs, fun j hj => by omega, fun j _ hj => ?_⟩
  rw [hcur]
  have m0 : j * 3 % 3 = 0 := by omega
  have m1 : (j * 3 + 1) % 3 = 1 := by omega
  have m2 : (j * 3 + 2) % 3 = 2 := by omega
  refine ⟨?_, ?_, ?_⟩
  · simp [madeCells, Value.cells, m0, show j * 3 < n * 3 by omega]
  · simp [madeCells, Value.cells, m1, show j * 3 + 1 < n * 3 by omega]
  · simp [madeCells, Value.cells, m2, show j * 3 + 2 < n * 3 by omega]

/-- What a copy of records holds when the first k are laid. -/
structure CopyK (w wr : World) (n : Nat) (rl : List Rec3) (us : List Value) (k : Nat) : Prop where
  len : us.length = k
  row : ∃ cur, wr.heap[w.heap.size]? = some (.cells cur 43 (0, 0)) ∧ RowK cur rl us n k
  each : ∀ j, j < k → Own wr w.heap.size (us.getD j (.slice none 0 0)) (rl.getD j zRec).d
  apart : ∀ i j, i < k → j < k → i ≠ j → ∀ b, (us.getD i (.slice none 0 0)).ownBlock = some b → (us.getD j (.slice none 0 0)).ownBlock ≠ some b
  bel : Below w.heap.size w wr

theorem CopyK.step {w wr w1 : World} {n : Nat} {rl : List Rec3} {us : List Value} {k : Nat} (h : CopyK w wr n rl us k) (hk : k < n) {u : Value} (hb : Below wr.heap.size wr w1) (hO : Own w1 wr.heap.size u (rl.getD k zRec).d) :
    CopyK w (((w1.setCell ⟨w.heap.size, k * 3, none⟩ (.int .i64 (rl.getD k zRec).t)).setCell ⟨w.heap.size, k * 3 + 1, none⟩ (.int .i64 (rl.getD k zRec).i)).setCell ⟨w.heap.size, k * 3 + 2, none⟩ u) n rl (us ++ [u]) (k + 1) := by
  obtain ⟨cur, hg, hr⟩ := h.row
  have hg1 : w1.heap[w.heap.size]? = some (.cells cur 43 (0, 0)) := kept hb hg (Nat.le_refl _)
  have hs := h.bel.size
  have e0 := heap_setCell_same w1 w.heap.size (k * 3) cur 43 (.int .i64 (rl.getD k zRec).t) hg1
  have e1 := heap_setCell_same _ w.heap.size (k * 3 + 1) _ 43 (.int .i64 (rl.getD k zRec).i) e0
  have e2 := heap_setCell_same _ w.heap.size (k * 3 + 2) _ 43 u e1
  have gk : ∀ j, j < k → (us ++ [u]).getD j (.slice none 0 0) = us.getD j (.slice none 0 0) := fun j hj => by simp [List.getD_eq_getElem?_getD, List.getElem?_append_left (show j < us.length by rw [h.len]; exact hj)]
  have gl : (us ++ [u]).getD k (.slice none 0 0) = u := by have := h.len; subst this; simp [List.getD_eq_getElem?_getD]
  have set3 : ∀ {v : Value} {xs : List Int}, Own w1 w.heap.size v xs → Own (((w1.setCell ⟨w.heap.size, k * 3, none⟩ (.int .i64 (rl.getD k zRec).t)).setCell ⟨w.heap.size, k * 3 + 1, none⟩ (.int .i64 (rl.getD k zRec).i)).setCell ⟨w.heap.size, k * 3 + 2, none⟩ u) w.heap.size v xs := fun {v xs} ho => by
    have hne : v.ownBlock ≠ some w.heap.size := own_other ho.2 hg1 (by decide)
    exact own_setCell (own_setCell (own_setCell ho (a := ⟨w.heap.size, k * 3, none⟩) hne _) (a := ⟨w.heap.size, k * 3 + 1, none⟩) hne _) (a := ⟨w.heap.size, k * 3 + 2, none⟩) hne _
  refine ⟨by rw [List.length_append, h.len]; rfl, ⟨_, e2, hr.step hk h.len u⟩, fun j hj => ?_, fun i j hi hj hij b hbi hbj => ?_, ?_⟩
  · by_cases e : j < k
    · rw [gk j e]
      exact set3 ((h.each j e).below hb (Nat.le_refl _))
    · have : j = k := by omega
      subst this
      rw [gl]
      exact set3 (hO.mono hs)
  · by_cases ei : i < k
    · rw [gk i ei] at hbi
      by_cases ej : j < k
      · rw [gk j ej] at hbj
        exact h.apart i j ei ej hij b hbi hbj
      · have : j = k := by omega
        subst this
        rw [gl] at hbj
        have h1 := ((h.each i ei).lt b hbi).2
        have h2 := (hO.lt b hbj).1
        omega
    · have : i = k := by omega
      subst this
      rw [gl] at hbi
      rw [gk j (by omega)] at hbj
      have h1 := ((h.each j (by omega)).lt b hbj).2
      have h2 := (hO.lt b hbi).1
      omega
  · exact (((h.bel.trans (hb.mono hs)).setCell (p := ⟨w.heap.size, k * 3, none⟩) (Nat.le_refl _) _).setCell (p := ⟨w.heap.size, k * 3 + 1, none⟩) (Nat.le_refl _) _).setCell (p := ⟨w.heap.size, k * 3 + 2, none⟩) (Nat.le_refl _) _

set_option maxRecDepth 20000 in
set_option maxHeartbeats 2000000 in
theorem toRecS_own (w : World) (v : Value) (rl : List Rec3) (us : List Value) (hv : RdRecs w v rl us) (hn : rl.length + sumTo rl rl.length ≤ 1048576) :
    Calls Try.prog 63 #[v] w fun e w' => ∃ v', e = .returned v' ∧ ∃ us', OwnRecs w' w.heap.size v' rl us' ∧ Below w.heap.size w w' := by
  have HV : Hid (RdRecs w v rl us) := hv
  have HX : Hid (∀ k, k < rl.length → (rl.getD k zRec).d.length ≤ 281474976710656) := fun k hk => by have := each_le hk; omega
  obtain ⟨ao, ca, rfl, ha1, ha2, ha3⟩ := hv.row
  clear hv
  unfold maxLen at ha2
  have hn' : rl.length ≤ 1048576 := by omega
  clear hn
  obtain ⟨i0, hi, hz0, hz1, hz2⟩ := info_parts info43
  have HI : Hid (Try.prog.info? 43 = some i0 ∧ i0.zero = some (.agg #[.int .i64 0, .int .i64 0, .slice none 0 0]) ∧ i0.size = 3 ∧ i0.bytes = 40) := ⟨hi, hz0, hz1, hz2⟩
  clear hi hz0 hz1 hz2
  go_enter Try.func63, Try.ntmps63
  go_wp2_with (at_make; refine wpList_make_full _ rfl _ _ 48 rfl w.heap.size 43 i0 (.agg #[.int .i64 0, .int .i64 0, .slice none 0 0]) 3 Try.underlying48 HI.out.1 HI.out.2.1 HI.out.2.2.1 .i64 .i64 _ _ rl.length rfl rfl rfl rfl (by rw [HI.out.2.2.2]; omega) (by unfold maxLen; omega) (Nat.le_refl _) ?_; intro w1 hown1 hgrow1)
  have HW : Hid (CopyK w w1 rl.length rl [] 0) := by
    obtain ⟨_, ⟨e, _⟩ | ⟨g, cap, cur, e, _, hg, _, _, hcs, htake⟩⟩ := hown1
    · simp at e
    · simp only [Value.slice.injEq, Option.some.injEq, Addr.mk.injEq, and_true, true_and] at e
      obtain ⟨rfl, rfl⟩ := e
      have hm := made3 rl.length hcs htake
      exact hide ⟨rfl, ⟨cur, hg, ⟨hm.size, fun j hj => by omega, hm.zero⟩⟩, fun j hj => by omega, fun i j hi => by omega, (Below.refl _ _).grown hgrow1 (Nat.le_refl _) (by simp)⟩
  clear hown1 hgrow1 HI
  go_loopw [4] (fun i wr => ∃ (k : Nat) (vs : List Value), k ≤ rl.length ∧ i = .int .i64 k ∧ Hid (CopyK w wr rl.length rl vs k)) (fun i _ => rl.length - (intOf i).toNat)
  case atStart => exact ⟨0, [], by omega, rfl, HW⟩
  case round =>
    clear HW
    obtain ⟨k, vs, hk, rfl, HR⟩ := hrel
    by_cases hlt : k < rl.length
    · obtain ⟨ab, aoff, rfl, hca⟩ := ha3 (by omega)
      obtain ⟨g0, g1, g2⟩ := hca k hlt
      have c0 := cell_at HR.out.bel g0 (Nat.le_refl _)
      have c1 := cell_at HR.out.bel g1 (Nat.le_refl _)
      have c2 := cell_at HR.out.bel g2 (Nat.le_refl _)
      have HA : Hid (RdA wr (us.getD k (.slice none 0 0)) (rl.getD k zRec).d) := (HV.out.each k hlt).below HR.out.bel (Nat.le_refl _)
      have hd := HX.out k hlt
      have HSt : Hid (∀ w1 u, Below wr.heap.size wr w1 → Own w1 wr.heap.size u (rl.getD k zRec).d → CopyK w (((w1.setCell ⟨w.heap.size, k * 3, none⟩ (.int .i64 (rl.getD k zRec).t)).setCell ⟨w.heap.size, k * 3 + 1, none⟩ (.int .i64 (rl.getD k zRec).i)).setCell ⟨w.heap.size, k * 3 + 2, none⟩ u) rl.length rl (vs ++ [u]) (k + 1)) := fun w1 u hb hO => HR.out.step hlt hb hO
      have HZ : Hid (∀ w1, Below wr.heap.size wr w1 → (w1.cell? ⟨w.heap.size, k * 3, none⟩ = some (.int .i64 0) ∧ w1.cell? ⟨w.heap.size, k * 3 + 1, none⟩ = some (.int .i64 0) ∧ w1.cell? ⟨w.heap.size, k * 3 + 2, none⟩ = some (.slice none 0 0)) ∧ w1.frozen? ⟨w.heap.size, k * 3, none⟩ = false ∧ w1.frozen? ⟨w.heap.size, k * 3 + 1, none⟩ = false ∧ w1.frozen? ⟨w.heap.size, k * 3 + 2, none⟩ = false) := fun w1 hb => by
        obtain ⟨cur, hg, hr⟩ := HR.out.row
        have hg1 := kept hb hg (Nat.le_refl _)
        obtain ⟨z0, z1, z2⟩ := hr.zero k (Nat.le_refl _) hlt
        exact ⟨⟨cell_of hg1 z0, cell_of hg1 z1, cell_of hg1 z2⟩, frozen_of hg1 _, frozen_of hg1 _, frozen_of hg1 _⟩
      clear hca ha3 g0 g1 g2
      generalize (us.getD k (.slice none 0 0)) = u at c2 HA
      generalize rl.getD k zRec = r at c0 c1 HA hd HSt
      obtain ⟨t, i, ys⟩ := r
      simp only at c0 c1 HA hd HSt
      obtain ⟨⟨uo, uc, rfl, _⟩, _⟩ := HA.out
      go_wp2_with fail
      refine (toRec_own wr t i _ ys HA.out hd).mono ?_
      rintro e w1 ⟨v1, rfl, o1, c1', rfl, O1, b1⟩
      obtain ⟨⟨z0, z1, z2⟩, f0, f1, f2⟩ := HZ.out w1 b1
      have HN := hide (HSt.out w1 _ b1 O1)
      clear O1 b1 HSt HZ HR HA
      go_wp2
      go_roundw
      case rel => exact ⟨k + 1, vs ++ [.slice o1 ys.length c1'], by omega, by go_num, HN⟩
      case measure => simp [intOf]; omega
    · obtain rfl : k = rl.length := by omega
      go_wp2
      go_ret
      refine ⟨_, rfl, vs, ⟨HR.out.len, ⟨_, _, rfl, Nat.le_refl _, by unfold maxLen; omega, fun _ => ?_⟩, HR.out.each, HR.out.apart⟩, HR.out.bel⟩
      obtain ⟨cur, hg, hr⟩ := HR.out.row
      exact ⟨w.heap.size, 0, cur, rfl, Nat.le_refl _, hg, fun j hj => by simpa using hr.laid j hj⟩

set_option maxRecDepth 20000 in
set_option maxHeartbeats 2000000 in
theorem eqRecS_same (w : World) (a b : Value) (rl : List Rec3) (us vs : List Value) (ha : RdRecs w a rl us) (hb : RdRecs w b rl vs) :
    Calls Try.prog 58 #[a, b] w fun e w' => e = .returned (.bool true) ∧ Below w.heap.size w w' := by
  have HA : Hid (RdRecs w a rl us ∧ RdRecs w b rl vs) := ⟨ha, hb⟩
  obtain ⟨ao, ca, rfl, ha1, ha2, ha3⟩ := ha.row
  obtain ⟨bo, cb, rfl, hb1, hb2, hb3⟩ := hb.row
  clear ha hb
  unfold maxLen at ha2 hb2
  have hne : (((rl.length : Nat) : Int) != ((rl.length : Nat) : Int)) = false := by simp
  go_enter Try.func58, Try.ntmps58
  go_wp2
  go_loopw [5] (fun i wr => ∃ k : Nat, k ≤ rl.length ∧ i = .int .i64 k ∧ Hid (Below w.heap.size w wr)) (fun i _ => rl.length - (intOf i).toNat)
  case atStart => exact ⟨0, by omega, rfl, hide (Below.refl _ _)⟩
  case round =>
    obtain ⟨k, hk, rfl, HR⟩ := hrel
    by_cases hlt : k < rl.length
    · obtain ⟨ab, aoff, rfl, hca⟩ := ha3 (by omega)
      obtain ⟨bb, boff, rfl, hcb⟩ := hb3 (by omega)
      obtain ⟨g0, g1, g2⟩ := hca k hlt
      obtain ⟨h0, h1, h2⟩ := hcb k hlt
      have c0 := cell_at HR.out g0 (Nat.le_refl _)
      have c1 := cell_at HR.out g1 (Nat.le_refl _)
      have c2 := cell_at HR.out g2 (Nat.le_refl _)
      have d0 := cell_at HR.out h0 (Nat.le_refl _)
      have d1 := cell_at HR.out h1 (Nat.le_refl _)
      have d2 := cell_at HR.out h2 (Nat.le_refl _)
      have HU : Hid (RdA wr (us.getD k (.slice none 0 0)) (rl.getD k zRec).d ∧ RdA wr (vs.getD k (.slice none 0 0)) (rl.getD k zRec).d) := ⟨(HA.out.1.each k hlt).below HR.out (Nat.le_refl _), (HA.out.2.each k hlt).below HR.out (Nat.le_refl _)⟩
      clear hca hcb ha3 hb3 g0 g1 g2 h0 h1 h2
      generalize (us.getD k (.slice none 0 0)) = u at c2 HU
      generalize vs.getD k (.slice none 0 0) = v at d2 HU
      generalize rl.getD k zRec = r at c0 c1 d0 d1 HU
      obtain ⟨t, i, ys⟩ := r
      simp only at c0 c1 d0 d1 HU
      obtain ⟨⟨uo, uc, rfl, _⟩, _⟩ := HU.out.1
      obtain ⟨⟨vo, vc, rfl, _⟩, _⟩ := HU.out.2
      have HK : Hid (∀ w', Below wr.heap.size wr w' → (w'.cell? ⟨ab, aoff + k * 3, none⟩ = some (.int .i64 t) ∧ w'.cell? ⟨ab, aoff + k * 3 + 1, none⟩ = some (.int .i64 i) ∧ w'.cell? ⟨ab, aoff + k * 3 + 2, none⟩ = some (.slice uo ys.length uc)) ∧ w'.cell? ⟨bb, boff + k * 3, none⟩ = some (.int .i64 t) ∧ w'.cell? ⟨bb, boff + k * 3 + 1, none⟩ = some (.int .i64 i) ∧ w'.cell? ⟨bb, boff + k * 3 + 2, none⟩ = some (.slice vo ys.length vc)) := fun w' hb => ⟨⟨cell_at hb c0 (Nat.le_refl _), cell_at hb c1 (Nat.le_refl _), cell_at hb c2 (Nat.le_refl _)⟩, cell_at hb d0 (Nat.le_refl _), cell_at hb d1 (Nat.le_refl _), cell_at hb d2 (Nat.le_refl _)⟩
      have HE : Hid (∀ n, Calls Try.prog 25 #[.agg #[.int .i64 t, .int .i64 i, .slice uo ys.length uc], .agg #[.int .i64 t, .int .i64 i, .slice vo ys.length vc]] (wr.drewN n) fun e w'' => e = .returned (.bool true) ∧ Below wr.heap.size wr w'') := fun n => by
        have hq : Below wr.heap.size wr (wr.drewN n) := below_drew' (Below.refl _ _) n
        refine (eqRec_same (wr.drewN n) t i _ _ ys (HU.out.1.below hq (Nat.le_refl _)) (HU.out.2.below hq (Nat.le_refl _))).mono ?_
        rintro e w'' ⟨rfl, hb'⟩
        exact ⟨rfl, hq.trans hb'⟩
      go_wp2
      go_region_held_law (fun w' => (w'.cell? ⟨ab, aoff + k * 3, none⟩ = some (.int .i64 t) ∧ w'.cell? ⟨ab, aoff + k * 3 + 1, none⟩ = some (.int .i64 i) ∧ w'.cell? ⟨ab, aoff + k * 3 + 2, none⟩ = some (.slice uo ys.length uc)) ∧ w'.cell? ⟨bb, boff + k * 3, none⟩ = some (.int .i64 t) ∧ w'.cell? ⟨bb, boff + k * 3 + 1, none⟩ = some (.int .i64 i) ∧ w'.cell? ⟨bb, boff + k * 3 + 2, none⟩ = some (.slice vo ys.length vc)) ((refine HK.out _ ?_; first | assumption | exact (Below.refl _ _).drew))
        (first | (go_at_call 25; refine (HE.out 1).mono ?_; rintro e w1 ⟨rfl, H1⟩))
      all_goals
        have H2 : Hid (Below w.heap.size w w1) := HR.out.trans (H1.mono HR.out.size)
        clear H1
        go_wp2
        go_roundw
        case rel => exact ⟨k + 1, by omega, by go_num, H2⟩
        case measure => simp [intOf]; omega
    · go_wp2
      go_ret
      exact ⟨rfl, HR.out⟩
end Go.Proofs.Ytipcdioolafkpag.recrows

/- One block of the hash, as the program mixes it in. -/
import Derived.Test.YtkkildgdeagpeahWord
import Derived.Test.YtkkildgdeagpeahRound
namespace Go.Proofs.Ytkkildgdeagpeah.block
open Go.ChangeShapes Go.WideShapes Go.ChangeAt Go.RowKit
open Go.Proofs.Ytkkildgdeagpeah.bytes Go.Proofs.Ytkkildgdeagpeah.rot Go.Proofs.Ytkkildgdeagpeah.root Go.Proofs.Ytkkildgdeagpeah.arr Go.Proofs.Ytkkildgdeagpeah.primes Go.Proofs.Ytkkildgdeagpeah.rule Go.Proofs.Ytkkildgdeagpeah.word Go.Proofs.Ytkkildgdeagpeah.round
set_option linter.unusedVariables false

/-- So many rounds. -/
def rN (st ws ks : List Nat) : Nat → List Nat
  | 0 => st
  | j + 1 => rnd (rN st ws ks j) ((ws.getD j 0 + ks.getD j 0) % 4294967296)
/-- The sums, the first j of them. -/
def sm (st nx : List Nat) : Nat → List Nat
  | 0 => st
  | j + 1 => (sm st nx j).set j (((sm st nx j).getD j 0 + nx.getD j 0) % 4294967296)
/-- A block is mixed in. -/
def blkN (st bs ks : List Nat) : List Nat := sm st (rN st (sc bs 64) ks 64) 8
theorem sm_length (st nx : List Nat) (j : Nat) : (sm st nx j).length = st.length := by
  induction j with
  | zero => rfl
  | succ j ih => rw [sm, List.length_set, ih]
theorem sm_lt {st nx : List Nat} (h : ∀ x ∈ st, x < 4294967296) (j : Nat) : ∀ x ∈ sm st nx j, x < 4294967296 := by
  induction j with
  | zero => exact h
  | succ j ih =>
    intro x hx
    rw [sm] at hx
    rcases List.mem_or_eq_of_mem_set hx with h1 | rfl
    · exact ih x h1
    · exact Nat.mod_lt _ (by decide)
theorem rnd_lt {s : List Nat} (h : ∀ x ∈ s, x < 4294967296) (x : Nat) : ∀ y ∈ rnd s x, y < 4294967296 := by
  intro y hy
  have g := getD_lt (by decide) h
  unfold rnd at hy
  simp only [List.mem_cons, List.not_mem_nil, or_false] at hy
  rcases hy with rfl | rfl | rfl | rfl | rfl | rfl | rfl | rfl
  · exact Nat.mod_lt _ (by decide)
  · exact g 0
  · exact g 1
  · exact g 2
  · exact Nat.mod_lt _ (by decide)
  · exact g 4
  · exact g 5
  · exact g 6
theorem rN_length {st ws ks : List Nat} (h : st.length = 8) (j : Nat) : (rN st ws ks j).length = 8 := by
  cases j with
  | zero => exact h
  | succ j => rfl
theorem rN_lt {st ws ks : List Nat} (h : ∀ x ∈ st, x < 4294967296) (j : Nat) : ∀ x ∈ rN st ws ks j, x < 4294967296 := by
  induction j with
  | zero => exact h
  | succ j ih => exact rnd_lt ih _
theorem list8 {l : List Nat} (h : l.length = 8) : ∃ a b c d e f g i, l = [a, b, c, d, e, f, g, i] := by
  match l, h with
  | [a, b, c, d, e, f, g, i], _ => exact ⟨a, b, c, d, e, f, g, i, rfl⟩
theorem round_list (w : World) (g : Nat) (st : List Nat) (x : Nat) (hs : st.length = 8) (hl : ∀ y ∈ st, y < 4294967296) (lx : x < 4294967296) (hA : Arr w g 54 .u32 st) :
    Calls Try.prog 61 #[.pointer (some ⟨g, 0, none⟩), .int .u32 x] w fun e' w' => e' = .returned (.tuple #[]) ∧ ∃ m, w' = (w.drewN m).setRow g (vals .u32 (rnd st x)).toArray := by
  obtain ⟨a, b, c, d, e, f, h, i, rfl⟩ := list8 hs
  exact round_any w g a b c d e f h i x (hl _ (by simp)) (hl _ (by simp)) (hl _ (by simp)) (hl _ (by simp)) (hl _ (by simp)) (hl _ (by simp)) (hl _ (by simp)) (hl _ (by simp)) lx hA
theorem size52 (W : World) : (sizeOf 52).run Try.prog W = .ok 1 W := by kernel_rfl
theorem agg52 (W : World) : (isAgg 52).run Try.prog W = .ok false W := by kernel_rfl

set_option maxRecDepth 20000 in
set_option maxHeartbeats 8000000 in
theorem block_any (w : World) (s b o cap : Nat) (st bs ks : List Nat) (hst : st.length = 8) (lst : ∀ x ∈ st, x < 4294967296) (hl : bs.length = 64) (hb : ∀ x ∈ bs, x < 256) (hcap : 64 ≤ cap) (hcap2 : cap ≤ maxLen)
    (hk : ks.length = 64) (lk : ∀ x ∈ ks, x < 4294967296) (hA : Arr w s 54 .u32 st) (hlt : b < w.heap.size) (hc : ∀ i, i < 64 → w.cell? ⟨b, o + i, none⟩ = some (.int .u8 (bs.getD i 0 : Nat))) :
    Calls Try.prog 53 #[.pointer (some ⟨s, 0, none⟩), .slice (some ⟨b, o, none⟩) 64 cap, .agg (vals .u32 ks).toArray] w fun e w' => e = .returned (.tuple #[]) ∧ Arr w' s 54 .u32 (blkN st bs ks) ∧ w.grownBy w' (some s) := by
  have hs := hA.lt
  have HA := hide hA
  obtain ⟨W2, hW2⟩ : ∃ W2, W2 = (w.alloc (.cells (vals .u32 ks).toArray 55)).alloc (.cells #[.int .u32 0, .int .u32 0, .int .u32 0, .int .u32 0, .int .u32 0, .int .u32 0, .int .u32 0, .int .u32 0] 54) := ⟨_, rfl⟩
  have HS0 : Hid (Arr W2 s 54 .u32 st ∧ Arr W2 w.heap.size 55 .u32 ks ∧ Arr W2 (w.heap.size + 1) 54 .u32 (List.replicate 8 0) ∧ Below w.heap.size w W2 ∧ W2.heap.size = w.heap.size + 2) := by
    refine hide ⟨?_, ?_, ?_, ?_, ?_⟩
    · rw [hW2]; exact (hA.alloc _).alloc _
    · rw [hW2]; exact (Arr.new w 55 .u32 ks _ rfl).alloc _
    · rw [hW2]
      have h := Arr.new (w.alloc (.cells (vals .u32 ks).toArray 55)) 54 .u32 (List.replicate 8 0) #[.int .u32 0, .int .u32 0, .int .u32 0, .int .u32 0, .int .u32 0, .int .u32 0, .int .u32 0, .int .u32 0] rfl
      simpa using h
    · rw [hW2]; exact ((Below.refl _ _).alloc (Nat.le_refl _) _).alloc (by simp) _
    · rw [hW2]; simp
  have HC := hide hc
  clear hc hA
  go_enter Try.func53, Try.ntmps53
  go_wp2_with (first | (refine wpList_load_row rfl _ _ rfl s rfl 54 _ (0, 0) _ (HA.out.alloc _) Try.underlying54 rfl (size54.trans (by rw [vsize, hst])) ?_) | (rw [← hW2]; refine wpList_store_row rfl _ _ _ rfl (w.heap.size + 1) _ rfl rfl 54 _ HS0.out.2.2.1 (size54.trans (by rw [vsize, hst])) (by rw [vsize, vsize, hst]; rfl) (vals_all _ _) ?_))
  rw [← hW2]
  clear hW2
  obtain ⟨W3, hW3⟩ : ∃ W3, W3 = W2.setRow (w.heap.size + 1) (vals .u32 st).toArray := ⟨_, rfl⟩
  have HS3 : Hid (Arr W3 s 54 .u32 st ∧ Arr W3 w.heap.size 55 .u32 ks ∧ Arr W3 (w.heap.size + 1) 54 .u32 st ∧ Below w.heap.size w W3 ∧ W3.heap.size = w.heap.size + 2) := by
    rw [hW3]
    exact hide ⟨HS0.out.1.setRowNe (by omega) _, HS0.out.2.1.setRowNe (by omega) _, HS0.out.2.2.1.setRow st, below_setRow HS0.out.2.2.2.1 (by omega) _, by rw [size_setRow]; exact HS0.out.2.2.2.2⟩
  rw [← hW3]
  clear hW3 HS0
  have hsz3 := HS3.out.2.2.2.2
  have HSch := hide (schedule_any W3 b o cap bs hl hb hcap hcap2 (by omega) (fun i hi => by rw [HS3.out.2.2.2.1.cell hlt]; exact HC.out i hi))
  refine HSch.out.mono ?_
  rintro e w4 ⟨rfl, B4⟩
  have HS4 : Hid (Arr w4 s 54 .u32 st ∧ Arr w4 w.heap.size 55 .u32 ks ∧ Arr w4 (w.heap.size + 1) 54 .u32 st ∧ Below w.heap.size w w4) :=
    hide ⟨HS3.out.1.below B4 (by omega), HS3.out.2.1.below B4 (by omega), HS3.out.2.2.1.below B4 (by omega), HS3.out.2.2.2.1.trans (B4.mono (by omega))⟩
  clear HSch HS3 B4 HC HA hsz3 hlt hcap hcap2
  have hws := sc_length bs 64
  have lws := sc_lt hb 64
  have HBl : Hid (blkN st bs ks = sm st (rN st (sc bs 64) ks 64) 8) := hide rfl
  generalize sc bs 64 = ws at hws lws HBl ⊢
  go_wp2
  go_loopw [15] (fun i wr => ∃ j : Nat, j ≤ 64 ∧ i = .int .i64 j ∧ Hid (Arr wr s 54 .u32 st ∧ Arr wr w.heap.size 55 .u32 ks ∧ Arr wr (w.heap.size + 1) 54 .u32 (rN st ws ks j) ∧ Below w.heap.size w wr)) (fun i _ => 64 - (intOf i).toNat)
  case atStart => exact ⟨0, by omega, rfl, HS4⟩
  case round =>
    obtain ⟨j, hj, rfl, HR⟩ := hrel
    clear HS4
    by_cases h64 : j < 64
    · have hix := run_index_vals wr 55 52 64 .u32 ws j Try.underlying55 size52 agg52 hws h64
      have kc := HR.out.2.1.cell (i := j) (by omega)
      have lX := getD_lt (by decide) lws j
      have lY := getD_lt (by decide) lk j
      have HN : Hid (rN st ws ks (j + 1) = rnd (rN st ws ks j) ((ws.getD j 0 + ks.getD j 0) % 4294967296)) := hide rfl
      generalize ws.getD j 0 = X at hix lX HN
      generalize ks.getD j 0 = Y at kc lY HN
      have HRd := hide (round_list wr (w.heap.size + 1) (rN st ws ks j) ((X + Y) % 4294967296) (rN_length hst j) (rN_lt lst j) (Nat.mod_lt _ (by decide)) HR.out.2.2.1)
      rw [← HN.out, show (((X + Y) % 4294967296 : Nat) : Int) = ((X : Int) + Y) % 4294967296 by omega] at HRd
      go_wp2_with fail
      refine HRd.out.mono ?_
      rintro e w' ⟨rfl, m, rfl⟩
      have HR5 : Hid (Arr ((wr.drewN m).setRow (w.heap.size + 1) (vals .u32 (rN st ws ks (j + 1))).toArray) s 54 .u32 st ∧ Arr ((wr.drewN m).setRow (w.heap.size + 1) (vals .u32 (rN st ws ks (j + 1))).toArray) w.heap.size 55 .u32 ks ∧ Arr ((wr.drewN m).setRow (w.heap.size + 1) (vals .u32 (rN st ws ks (j + 1))).toArray) (w.heap.size + 1) 54 .u32 (rN st ws ks (j + 1)) ∧ Below w.heap.size w ((wr.drewN m).setRow (w.heap.size + 1) (vals .u32 (rN st ws ks (j + 1))).toArray)) :=
        hide ⟨Arr.setRowNe (w := wr.drewN m) HR.out.1 (by omega) _, Arr.setRowNe (w := wr.drewN m) HR.out.2.1 (by omega) _, Arr.setRow (w := wr.drewN m) HR.out.2.2.1 _, below_setRow (Below.trans (b := wr) (c := wr.drewN m) HR.out.2.2.2 ⟨rfl, rfl, rfl, Nat.le_refl _, fun _ _ => rfl⟩) (by omega) _⟩
      generalize (wr.drewN m).setRow (w.heap.size + 1) (vals .u32 (rN st ws ks (j + 1))).toArray = W5 at HR5 ⊢
      clear HR HRd HN kc hix
      go_wp2
      go_roundw
      case rel => exact ⟨j + 1, by omega, by go_num, HR5⟩
      case measure => simp [intOf]; omega
    · obtain rfl : j = 64 := by omega
      have hnx := rN_length (ws := ws) (ks := ks) hst 64
      have lnx := rN_lt (ws := ws) (ks := ks) lst 64
      generalize rN st ws ks 64 = nx at hnx lnx HR HBl
      have HG : Hid (w.grownBy wr (some s)) := hide ⟨HR.out.2.2.2.os, HR.out.2.2.2.tape, HR.out.2.2.2.output, HR.out.2.2.2.size, fun k hk _ => HR.out.2.2.2.block k hk⟩
      have HR6 : Hid (Arr wr s 54 .u32 (sm st nx 0) ∧ Arr wr (w.heap.size + 1) 54 .u32 nx ∧ w.grownBy wr (some s)) := hide ⟨HR.out.1, HR.out.2.2.1, HG.out⟩
      clear HR HG
      go_wp2
      go_loopw [26] (fun i wx => ∃ j : Nat, j ≤ 8 ∧ i = .int .i64 j ∧ Hid (Arr wx s 54 .u32 (sm st nx j) ∧ Arr wx (w.heap.size + 1) 54 .u32 nx ∧ w.grownBy wx (some s))) (fun i _ => 8 - (intOf i).toNat)
      case atStart => exact ⟨0, by omega, rfl, HR6⟩
      case round =>
        obtain ⟨i, hi, rfl, HX⟩ := hrel
        clear HR6
        by_cases h8 : i < 8
        · have hsl := sm_length st nx i
          have ca := HX.out.1.cell (i := i) (by omega)
          have fa := HX.out.1.frozen i
          have cb := HX.out.2.1.cell (i := i) (by omega)
          have lA := getD_lt (by decide) (sm_lt (nx := nx) lst i) i
          have lB := getD_lt (by decide) lnx i
          have HN : Hid (sm st nx (i + 1) = (sm st nx i).set i (((sm st nx i).getD i 0 + nx.getD i 0) % 4294967296)) := hide rfl
          generalize (sm st nx i).getD i 0 = A at ca lA HN
          generalize nx.getD i 0 = B at cb lB HN
          go_wp2
          have HVw : Hid ((.int .u32 (((A : Int) + B) % 4294967296) : Value) = .int .u32 (((A + B) % 4294967296 : Nat) : Int)) := by
            unfold Hid
            congr 1
          go_region
          have HY : Hid (Arr (wr.setCell ⟨s, i, none⟩ (.int .u32 (((A : Int) + B) % 4294967296))).drew s 54 .u32 (sm st nx (i + 1)) ∧ Arr (wr.setCell ⟨s, i, none⟩ (.int .u32 (((A : Int) + B) % 4294967296))).drew (w.heap.size + 1) 54 .u32 nx ∧ w.grownBy (wr.setCell ⟨s, i, none⟩ (.int .u32 (((A : Int) + B) % 4294967296))).drew (some s)) := by
            refine hide ⟨?_, ?_, ?_⟩
            · rw [HN.out]; exact HX.out.1.set i _ _ HVw.out
            · exact HX.out.2.1.setNe (by omega) _ _
            · exact ⟨HX.out.2.2.os, HX.out.2.2.tape, HX.out.2.2.output, (show w.heap.size ≤ (wr.setCell ⟨s, i, none⟩ (.int .u32 (((A : Int) + B) % 4294967296))).heap.size by simpa using HX.out.2.2.size), fun k hk hn => (Below.heap_setCell wr ⟨s, i, none⟩ _ k (fun e => hn (by simp [e]))).trans (HX.out.2.2.block k hk hn)⟩
          generalize (wr.setCell ⟨s, i, none⟩ (.int .u32 (((A : Int) + B) % 4294967296))).drew = W7 at HY ⊢
          clear HX ca fa cb HN HVw
          go_wp2
          go_roundw
          case rel => exact ⟨i + 1, by omega, by go_num, HY⟩
          case measure => simp [intOf]; omega
        · obtain rfl : i = 8 := by omega
          go_wp2
          go_end0
          exact ⟨rfl, by rw [HBl.out]; exact HX.out.1, HX.out.2.2⟩
end Go.Proofs.Ytkkildgdeagpeah.block

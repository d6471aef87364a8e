/- A digest as a key, as the program writes it. -/
import Derived.Test.YtkkildgdeagpeahBlock
import Derived.Test.YtkkildgdeagpeahJoin
import Derived.Laws.BytesArg
namespace Go.Proofs.Ytkkildgdeagpeah.keys
open Go.ChangeShapes Go.WideShapes Go.ChangeAt Go.RowKit
open Go.Proofs.Ytkkildgdeagpeah.bytes Go.Proofs.Ytkkildgdeagpeah.pile Go.Proofs.Ytkkildgdeagpeah.join Go.Proofs.Ytkkildgdeagpeah.rot Go.Proofs.Ytkkildgdeagpeah.root Go.Proofs.Ytkkildgdeagpeah.arr Go.Proofs.Ytkkildgdeagpeah.primes Go.Proofs.Ytkkildgdeagpeah.rule Go.Proofs.Ytkkildgdeagpeah.word Go.Proofs.Ytkkildgdeagpeah.round Go.Proofs.Ytkkildgdeagpeah.block
set_option linter.unusedVariables false

def hexC (n : Nat) : Nat := if n < 10 then 48 + n else 87 + n
def kyTo (ds : List Nat) : Nat → List Nat
  | 0 => List.replicate 64 0
  | j + 1 => ((kyTo ds j).set (2 * j) (hexC (ds.getD j 0 / 16))).set (2 * j + 1) (hexC (ds.getD j 0 % 16))
theorem ky_length (ds : List Nat) (j : Nat) : (kyTo ds j).length = 64 := by
  induction j with
  | zero => rfl
  | succ j ih => rw [kyTo, List.length_set, List.length_set, ih]
theorem size51k : (Try.prog.info? 51).map (·.size) = some 32 := by kernel_rfl
theorem size5 (W : World) : (sizeOf 5).run Try.prog W = .ok 1 W := by kernel_rfl
theorem agg5 (W : World) : (isAgg 5).run Try.prog W = .ok false W := by kernel_rfl
theorem u8_and15 (c : Nat) (h : c < 256) : bits .and .u8 (c : Int) 15 = ((c % 16 : Nat) : Int) := by
  have h1 : (BitVec.ofInt 8 (c : Int)).toNat = c := by rw [BitVec.toNat_ofInt]; omega
  have h15 : (BitVec.ofInt 8 15).toNat = 2 ^ 4 - 1 := by decide
  have key : (BitVec.ofInt 8 (c : Int) &&& BitVec.ofInt 8 15).toNat = c % 16 := by rw [BitVec.toNat_and, h1, h15, Nat.and_two_pow_sub_one_eq_mod]
  show IntKind.u8.wrap ((BitVec.ofInt 8 (c : Int) &&& BitVec.ofInt 8 15).toNat : Nat) = _
  rw [key, IntKind.wrap_u8]
  omega
theorem hex_get (n : Nat) (h : n < 16) (W : World) : (Instr.index 9 (.string ⟨#[48, 49, 50, 51, 52, 53, 54, 55, 56, 57, 97, 98, 99, 100, 101, 102]⟩) (.int .u8 (n : Int))).run Try.prog W = .ok (.int .u8 (hexC n : Nat)) W := by
  rcases (show n = 0 ∨ n = 1 ∨ n = 2 ∨ n = 3 ∨ n = 4 ∨ n = 5 ∨ n = 6 ∨ n = 7 ∨ n = 8 ∨ n = 9 ∨ n = 10 ∨ n = 11 ∨ n = 12 ∨ n = 13 ∨ n = 14 ∨ n = 15 by omega) with rfl | rfl | rfl | rfl | rfl | rfl | rfl | rfl | rfl | rfl | rfl | rfl | rfl | rfl | rfl | rfl <;> kernel_rfl

set_option maxRecDepth 20000 in
set_option maxHeartbeats 8000000 in
theorem key_any (w : World) (ds : List Nat) (hl : ds.length = 32) (hd : ∀ x ∈ ds, x < 256) :
    Calls Try.prog 29 #[.agg (vals .u8 ds).toArray] w fun e w' => e = .returned (.string (strOfNums ((kyTo ds 32).map (fun x => ((x : Nat) : Int))))) ∧ Below w.heap.size w w' := by
  obtain ⟨W2, hW2⟩ : ∃ W2, W2 = (w.alloc (.cells (vals .u8 ds).toArray 51)).alloc (.cells #[.int .u8 0, .int .u8 0, .int .u8 0, .int .u8 0, .int .u8 0, .int .u8 0, .int .u8 0, .int .u8 0, .int .u8 0, .int .u8 0, .int .u8 0, .int .u8 0, .int .u8 0, .int .u8 0, .int .u8 0, .int .u8 0, .int .u8 0, .int .u8 0, .int .u8 0, .int .u8 0, .int .u8 0, .int .u8 0, .int .u8 0, .int .u8 0, .int .u8 0, .int .u8 0, .int .u8 0, .int .u8 0, .int .u8 0, .int .u8 0, .int .u8 0, .int .u8 0, .int .u8 0, .int .u8 0, .int .u8 0, .int .u8 0, .int .u8 0, .int .u8 0, .int .u8 0, .int .u8 0, .int .u8 0, .int .u8 0, .int .u8 0, .int .u8 0, .int .u8 0, .int .u8 0, .int .u8 0, .int .u8 0, .int .u8 0, .int .u8 0, .int .u8 0, .int .u8 0, .int .u8 0, .int .u8 0, .int .u8 0, .int .u8 0, .int .u8 0, .int .u8 0, .int .u8 0, .int .u8 0, .int .u8 0, .int .u8 0, .int .u8 0, .int .u8 0] 88) := ⟨_, rfl⟩
  have HS0 : Hid (Arr W2 w.heap.size 51 .u8 ds ∧ Arr W2 (w.heap.size + 1) 88 .u8 (kyTo ds 0) ∧ Below w.heap.size w W2) := by
    refine hide ⟨?_, ?_, ?_⟩
    · rw [hW2]; exact (Arr.new w 51 .u8 ds _ rfl).alloc _
    · rw [hW2]
      have h := Arr.new (w.alloc (.cells (vals .u8 ds).toArray 51)) 88 .u8 (List.replicate 64 0) #[.int .u8 0, .int .u8 0, .int .u8 0, .int .u8 0, .int .u8 0, .int .u8 0, .int .u8 0, .int .u8 0, .int .u8 0, .int .u8 0, .int .u8 0, .int .u8 0, .int .u8 0, .int .u8 0, .int .u8 0, .int .u8 0, .int .u8 0, .int .u8 0, .int .u8 0, .int .u8 0, .int .u8 0, .int .u8 0, .int .u8 0, .int .u8 0, .int .u8 0, .int .u8 0, .int .u8 0, .int .u8 0, .int .u8 0, .int .u8 0, .int .u8 0, .int .u8 0, .int .u8 0, .int .u8 0, .int .u8 0, .int .u8 0, .int .u8 0, .int .u8 0, .int .u8 0, .int .u8 0, .int .u8 0, .int .u8 0, .int .u8 0, .int .u8 0, .int .u8 0, .int .u8 0, .int .u8 0, .int .u8 0, .int .u8 0, .int .u8 0, .int .u8 0, .int .u8 0, .int .u8 0, .int .u8 0, .int .u8 0, .int .u8 0, .int .u8 0, .int .u8 0, .int .u8 0, .int .u8 0, .int .u8 0, .int .u8 0, .int .u8 0, .int .u8 0] rfl
      rw [show (w.alloc (.cells (vals .u8 ds).toArray 51)).heap.size = w.heap.size + 1 by simp] at h
      exact h
    · rw [hW2]; exact ((Below.refl _ _).alloc (Nat.le_refl _) _).alloc (by simp) _
  go_enter Try.func29, Try.ntmps29
  go_wp2_with (rw [← hW2]; refine wpList_load_row rfl _ _ rfl w.heap.size rfl 51 _ (0, 0) _ HS0.out.1 Try.underlying51 rfl (size51k.trans (by rw [vsize, hl])) ?_)
  try rw [← hW2]
  clear hW2
  go_loopw [7] (fun i wr => ∃ j : Nat, j ≤ 32 ∧ i = .int .i64 j ∧ Hid (Arr wr (w.heap.size + 1) 88 .u8 (kyTo ds j) ∧ Below w.heap.size w wr)) (fun i _ => 32 - (intOf i).toNat)
  case atStart => exact ⟨0, by omega, rfl, hide HS0.out.2⟩
  case round =>
    obtain ⟨j, hj, rfl, HR⟩ := hrel
    clear HS0
    by_cases h32 : j < 32
    · have hix := run_index_vals wr 51 5 32 .u8 ds j Try.underlying51 size5 agg5 hl h32
      have hc := getD_lt (by decide) hd j
      have hkl := ky_length ds j
      have HN : Hid (kyTo ds (j + 1) = ((kyTo ds j).set (2 * j) (hexC (ds.getD j 0 / 16))).set (2 * j + 1) (hexC (ds.getD j 0 % 16))) := hide rfl
      have ca := HR.out.1.cell (i := 2 * j) (by omega)
      have fa := HR.out.1.frozen (2 * j)
      have cb := HR.out.1.cell (i := 2 * j + 1) (by omega)
      have fb := HR.out.1.frozen (2 * j + 1)
      generalize ds.getD j 0 = c at hix hc HN
      generalize (kyTo ds j).getD (2 * j) 0 = A at ca
      generalize (kyTo ds j).getD (2 * j + 1) 0 = B at cb
      have ha15 := u8_and15 c hc
      have hdv : (c : Int) / 16 = ((c / 16 : Nat) : Int) := by omega
      have hh1 := hex_get (c / 16) (by omega)
      have hh2 := hex_get (c % 16) (by omega)
      generalize c / 16 = C1 at hdv hh1 HN
      generalize c % 16 = C2 at ha15 hh2 HN
      go_wp2
      go_region
      have HY : Hid (Arr ((wr.setCell ⟨w.heap.size + 1, 2 * j, none⟩ (.int .u8 (hexC C1 : Nat))).setCell ⟨w.heap.size + 1, 2 * j + 1, none⟩ (.int .u8 (hexC C2 : Nat))).drew (w.heap.size + 1) 88 .u8 (kyTo ds (j + 1)) ∧ Below w.heap.size w ((wr.setCell ⟨w.heap.size + 1, 2 * j, none⟩ (.int .u8 (hexC C1 : Nat))).setCell ⟨w.heap.size + 1, 2 * j + 1, none⟩ (.int .u8 (hexC C2 : Nat))).drew) := by
        refine hide ⟨?_, ?_⟩
        · rw [HN.out]; exact (HR.out.1.set (2 * j) _ _ rfl).set (2 * j + 1) _ _ rfl
        · exact ((HR.out.2.setCell (show w.heap.size ≤ w.heap.size + 1 by omega) _).setCell (show w.heap.size ≤ w.heap.size + 1 by omega) _).drew
      generalize ((wr.setCell ⟨w.heap.size + 1, 2 * j, none⟩ (.int .u8 (hexC C1 : Nat))).setCell ⟨w.heap.size + 1, 2 * j + 1, none⟩ (.int .u8 (hexC C2 : Nat))).drew = W7 at HY ⊢
      clear HR ca fa cb fb HN hix hh1 hh2 ha15 hdv
      go_wp2
      go_roundw
      case rel => exact ⟨j + 1, by omega, by go_num, HY⟩
      case measure => simp [intOf]; omega
    · obtain rfl : j = 32 := by omega
      have hcv := run_convert_bytes_arg (P := Try.prog) wr 22 5 Try.underlying22 Try.underlying5 (w.heap.size + 1) 0 64 64 ((kyTo ds 32).map (fun x => ((x : Nat) : Int))) (by rw [List.length_map, ky_length]) (fun i hi => by
        have hi' : i < (kyTo ds 32).length := by rw [ky_length]; exact hi
        rw [Nat.zero_add, HR.out.1.cell hi', List.getD_eq_getElem?_getD, List.getD_eq_getElem?_getD, List.getElem?_map, List.getElem?_eq_getElem hi']
        rfl) 9 Try.underlying9
      go_wp2
      go_ret
      exact ⟨rfl, HR.out.2⟩
end Go.Proofs.Ytkkildgdeagpeah.keys

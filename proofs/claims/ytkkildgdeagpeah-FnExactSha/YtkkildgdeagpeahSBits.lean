/- Facts about numbers and bits, as the specification reckons with them. -/
import Derived.Test.YtkkildgdeagpeahTurn
import Derived.Test.YtkkildgdeagpeahHex
import Derived.Test.YtkkildgdeagpeahISha
namespace Go.Proofs.Ytkkildgdeagpeah.sbits
open Go.ChangeShapes Go.WideShapes Go.ChangeAt Go.RowKit
open Go.Proofs.Ytkkildgdeagpeah.bytes Go.Proofs.Ytkkildgdeagpeah.rot Go.Proofs.Ytkkildgdeagpeah.turn Go.Proofs.Ytkkildgdeagpeah.hex Go.Proofs.Ytkkildgdeagpeah.word Go.Proofs.Ytkkildgdeagpeah.round Go.Proofs.Ytkkildgdeagpeah.block Go.Proofs.Ytkkildgdeagpeah.pad Go.Proofs.Ytkkildgdeagpeah.dig Go.Proofs.Ytkkildgdeagpeah.keys
set_option linter.unusedVariables false

/-- The first j of the sums, one behind the other. -/
def sms (st nx : List Nat) (j : Nat) : List Nat := (List.range j).map fun i => (st.getD i 0 + nx.getD i 0) % 4294967296
theorem sms_succ (st nx : List Nat) (j : Nat) : sms st nx (j + 1) = sms st nx j ++ [(st.getD j 0 + nx.getD j 0) % 4294967296] := by
  unfold sms
  rw [List.range_succ, List.map_append]
  rfl
theorem sms_all (a b c d e f g h : Nat) (nx : List Nat) : sms [a, b, c, d, e, f, g, h] nx 8 = sm [a, b, c, d, e, f, g, h] nx 8 := rfl
/-- The eight bytes of a length, one behind the other: the first j. -/
def ltA (n j : Nat) : List Int := (List.range j).map fun i => ((8 * n / 2 ^ (8 * (7 - i)) % 256 : Nat) : Int)
theorem ltA_succ (n j : Nat) : ltA n (j + 1) = ltA n j ++ [((8 * n / 2 ^ (8 * (7 - j)) % 256 : Nat) : Int)] := by
  unfold ltA
  rw [List.range_succ, List.map_append]
  rfl
theorem ltA_all (n : Nat) : ltA n 8 = (lt n 8).map (fun x => ((x : Nat) : Int)) := rfl
/-- The digits of the first j words. -/
def hxs (st : List Nat) : Nat → List Int
  | 0 => []
  | j + 1 => hxs st j ++ hx (st.getD j 0) 8
theorem hx_bytes (a : Nat) : hx a 8 = [((hexC (a / 16777216 % 256 / 16) : Nat) : Int), ((hexC (a / 16777216 % 256 % 16) : Nat) : Int), ((hexC (a / 65536 % 256 / 16) : Nat) : Int), ((hexC (a / 65536 % 256 % 16) : Nat) : Int), ((hexC (a / 256 % 256 / 16) : Nat) : Int), ((hexC (a / 256 % 256 % 16) : Nat) : Int), ((hexC (a / 1 % 256 / 16) : Nat) : Int), ((hexC (a / 1 % 256 % 16) : Nat) : Int)] := by
  have e0 : a / 268435456 % 16 = a / 16777216 % 256 / 16 := by omega
  have e1 : a / 16777216 % 16 = a / 16777216 % 256 % 16 := by omega
  have e2 : a / 1048576 % 16 = a / 65536 % 256 / 16 := by omega
  have e3 : a / 65536 % 16 = a / 65536 % 256 % 16 := by omega
  have e4 : a / 4096 % 16 = a / 256 % 256 / 16 := by omega
  have e5 : a / 256 % 16 = a / 256 % 256 % 16 := by omega
  have e6 : a / 16 % 16 = a / 1 % 256 / 16 := by omega
  have e7 : a / 1 % 16 = a / 1 % 256 % 16 := by omega
  show [((hexC (a / 268435456 % 16) : Nat) : Int), ((hexC (a / 16777216 % 16) : Nat) : Int), ((hexC (a / 1048576 % 16) : Nat) : Int), ((hexC (a / 65536 % 16) : Nat) : Int), ((hexC (a / 4096 % 16) : Nat) : Int), ((hexC (a / 256 % 16) : Nat) : Int), ((hexC (a / 16 % 16) : Nat) : Int), ((hexC (a / 1 % 16) : Nat) : Int)] = _
  rw [e0, e2, e4, e6, e1, e3, e5, e7]
def kyF (ds : List Nat) : Nat → List Nat
  | 0 => []
  | j + 1 => kyF ds j ++ [hexC (ds.getD j 0 / 16), hexC (ds.getD j 0 % 16)]
theorem kyF_length (ds : List Nat) (j : Nat) : (kyF ds j).length = 2 * j := by
  induction j with
  | zero => rfl
  | succ j ih => rw [kyF, List.length_append, ih]; simp; omega
theorem kyTo_eq (ds : List Nat) (j : Nat) (hj : j ≤ 32) : kyTo ds j = kyF ds j ++ List.replicate (64 - 2 * j) 0 := by
  induction j with
  | zero => rfl
  | succ j ih =>
    rw [kyTo, ih (by omega), kyF, show 64 - 2 * j = (64 - 2 * (j + 1)) + 1 + 1 by omega, List.replicate_succ, List.replicate_succ]
    rw [List.set_append_right _ _ (by rw [kyF_length]; omega), kyF_length, Nat.sub_self, List.set_cons_zero]
    rw [List.set_append_right _ _ (by rw [kyF_length]; omega), kyF_length, show 2 * j + 1 - 2 * j = 1 by omega, List.set_cons_succ, List.set_cons_zero, List.append_assoc]
    rfl
def bytF (st : List Nat) (j : Nat) : Nat := st.getD (j / 4) 0 / 2 ^ (24 - 8 * (j % 4)) % 256
theorem byts_eq (st : List Nat) (j : Nat) (hj : j ≤ 32) : byts st j = (List.range j).map (bytF st) ++ List.replicate (32 - j) 0 := by
  induction j with
  | zero => rfl
  | succ j ih =>
    rw [byts, ih (by omega), List.range_succ, List.map_append, show 32 - j = (32 - (j + 1)) + 1 by omega, List.replicate_succ]
    rw [List.set_append_right _ _ (by simp), List.length_map, List.length_range, Nat.sub_self, List.set_cons_zero, List.append_assoc]
    rfl
theorem byts_get (st : List Nat) (j : Nat) (hj : j < 32) : (byts st 32).getD j 0 = bytF st j := by
  rw [byts_eq st 32 (by omega), show 32 - 32 = 0 by omega, List.replicate_zero, List.append_nil, List.getD_eq_getElem?_getD, List.getElem?_map, List.getElem?_range hj]
  rfl
theorem hxs_part (st : List Nat) (i : Nat) (hi : i ≤ 8) : hxs st i = (kyF (byts st 32) (4 * i)).map (fun x => ((x : Nat) : Int)) := by
  induction i with
  | zero => rfl
  | succ i ih =>
    have f0 : bytF st (4 * i) = st.getD i 0 / 16777216 % 256 := by unfold bytF; rw [show 4 * i / 4 = i by omega, show 4 * i % 4 = 0 by omega]
    have f1 : bytF st (4 * i + 1) = st.getD i 0 / 65536 % 256 := by unfold bytF; rw [show (4 * i + 1) / 4 = i by omega, show (4 * i + 1) % 4 = 1 by omega]
    have f2 : bytF st (4 * i + 1 + 1) = st.getD i 0 / 256 % 256 := by unfold bytF; rw [show (4 * i + 1 + 1) / 4 = i by omega, show (4 * i + 1 + 1) % 4 = 2 by omega]
    have f3 : bytF st (4 * i + 1 + 1 + 1) = st.getD i 0 / 1 % 256 := by unfold bytF; rw [show (4 * i + 1 + 1 + 1) / 4 = i by omega, show (4 * i + 1 + 1 + 1) % 4 = 3 by omega]
    rw [hxs, ih (by omega), show 4 * (i + 1) = 4 * i + 1 + 1 + 1 + 1 by omega, kyF, kyF, kyF, kyF, byts_get st _ (by omega), byts_get st _ (by omega), byts_get st _ (by omega), byts_get st _ (by omega), f0, f1, f2, f3, hx_bytes]
    simp only [List.map_append, List.append_assoc, List.map_cons, List.map_nil, List.cons_append, List.nil_append]
theorem hxs_all (st : List Nat) : hxs st 8 = (kyTo (byts st 32) 32).map (fun x => ((x : Nat) : Int)) := by
  rw [hxs_part st 8 (by omega), kyTo_eq _ 32 (by omega), show 64 - 2 * 32 = 0 by omega, List.replicate_zero, List.append_nil]
theorem rnd_mod (i s c x y t : Nat) : (i + s + c + y + x + t) % 4294967296 = (i + s + c + (x + y) % 4294967296 + t) % 4294967296 := by omega
theorem rnd_mod2 (d i s c x y : Nat) : (d + (i + s + c + y + x)) % 4294967296 = (d + (i + s + c + (x + y) % 4294967296)) % 4294967296 := by omega
theorem pad_mod (L z : Nat) (hz : z ≤ 63 - (L + 8) % 64) : (L + 1 + z) % 64 = 56 ↔ z = 63 - (L + 8) % 64 := by omega

theorem x62 {a : Nat} (h : a < 4294967296) : a < 4611686018427387904 := by omega
theorem xor32 {a b : Nat} (ha : a < 4294967296) (hb : b < 4294967296) : a ^^^ b < 4294967296 := Nat.xor_lt_two_pow (n := 32) ha hb
theorem and32 {a b : Nat} (hb : b < 4294967296) : a &&& b < 4294967296 := Nat.and_lt_two_pow (n := 32) a hb
theorem or32 {a b : Nat} (ha : a < 4294967296) (hb : b < 4294967296) : a ||| b < 4294967296 := Nat.or_lt_two_pow (n := 32) ha hb
theorem xor3 (a b c : Nat) (ha : a < 4294967296) (hb : b < 4294967296) (hc : c < 4294967296) : bits .xor .i64 (bits .xor .i64 (a : Int) (b : Int)) (c : Int) = ((a ^^^ b ^^^ c : Nat) : Int) := by
  rw [turn.i64_xor a b (x62 ha) (x62 hb), turn.i64_xor (a ^^^ b) c (x62 (xor32 ha hb)) (x62 hc)]
theorem bg0_i (x : Nat) (h : x < 4294967296) : bits .xor .i64 (bits .xor .i64 ((rotr x 2 : Nat) : Int) ((rotr x 13 : Nat) : Int)) ((rotr x 22 : Nat) : Int) = ((bg0 x : Nat) : Int) := xor3 _ _ _ (rotr_lt _ _ h) (rotr_lt _ _ h) (rotr_lt _ _ h)
theorem bg1_i (x : Nat) (h : x < 4294967296) : bits .xor .i64 (bits .xor .i64 ((rotr x 6 : Nat) : Int) ((rotr x 11 : Nat) : Int)) ((rotr x 25 : Nat) : Int) = ((bg1 x : Nat) : Int) := xor3 _ _ _ (rotr_lt _ _ h) (rotr_lt _ _ h) (rotr_lt _ _ h)
theorem sg0_i (x : Nat) (h : x < 4294967296) : bits .xor .i64 (bits .xor .i64 ((rotr x 7 : Nat) : Int) ((rotr x 18 : Nat) : Int)) ((x : Int) / 8) = ((sg0 x : Nat) : Int) := by
  rw [show (x : Int) / 8 = ((x / 8 : Nat) : Int) by omega]
  exact xor3 _ _ _ (rotr_lt _ _ h) (rotr_lt _ _ h) (by omega)
theorem sg1_i (x : Nat) (h : x < 4294967296) : bits .xor .i64 (bits .xor .i64 ((rotr x 17 : Nat) : Int) ((rotr x 19 : Nat) : Int)) ((x : Int) / 1024) = ((sg1 x : Nat) : Int) := by
  rw [show (x : Int) / 1024 = ((x / 1024 : Nat) : Int) by omega]
  exact xor3 _ _ _ (rotr_lt _ _ h) (rotr_lt _ _ h) (by omega)
theorem ch_i (e f g : Nat) (he : e < 4294967296) (hf : f < 4294967296) (hg : g < 4294967296) : bits .xor .i64 (bits .and .i64 (e : Int) (f : Int)) (bits .and .i64 (bits .xor .i64 (e : Int) 4294967295) (g : Int)) = ((chN e f g : Nat) : Int) := by
  have h0 : bits .xor .i64 (e : Int) 4294967295 = ((e ^^^ 4294967295 : Nat) : Int) := turn.i64_xor e 4294967295 (x62 he) (by decide)
  rw [h0, turn.i64_and e f (x62 he) (x62 hf), turn.i64_and (e ^^^ 4294967295) g (x62 (xor32 he (by decide))) (x62 hg), turn.i64_xor _ _ (x62 (and32 hf)) (x62 (and32 hg))]
  rfl
theorem maj_i (a b c : Nat) (ha : a < 4294967296) (hb : b < 4294967296) (hc : c < 4294967296) : bits .xor .i64 (bits .xor .i64 (bits .and .i64 (a : Int) (b : Int)) (bits .and .i64 (a : Int) (c : Int))) (bits .and .i64 (b : Int) (c : Int)) = ((majN a b c : Nat) : Int) := by
  rw [turn.i64_and a b (x62 ha) (x62 hb), turn.i64_and a c (x62 ha) (x62 hc), turn.i64_and b c (x62 hb) (x62 hc)]
  exact xor3 _ _ _ (and32 hb) (and32 hc) (and32 hc)
theorem word_i (a b c d : Nat) (ha : a < 256) (hb : b < 256) (hc : c < 256) (hd : d < 256) :
    bits .or .i64 (bits .or .i64 (bits .or .i64 ((a : Int) * 16777216) ((b : Int) * 65536)) ((c : Int) * 256)) (d : Int) = ((wordN a b c d : Nat) : Int) := by
  obtain ⟨x, hx⟩ : ∃ x : Nat, x = a * 16777216 := ⟨_, rfl⟩
  obtain ⟨y, hy⟩ : ∃ y : Nat, y = b * 65536 := ⟨_, rfl⟩
  obtain ⟨z, hz⟩ : ∃ z : Nat, z = c * 256 := ⟨_, rfl⟩
  have e1 : (a : Int) * 16777216 = (x : Int) := by omega
  have e2 : (b : Int) * 65536 = (y : Int) := by omega
  have e3 : (c : Int) * 256 = (z : Int) := by omega
  have l1 : x < 4294967296 := by omega
  have l2 : y < 4294967296 := by omega
  have l3 : z < 4294967296 := by omega
  have e4 : wordN a b c d = (x ||| y ||| z ||| d) := by rw [hx, hy, hz]; rfl
  rw [e1, e2, e3, e4, (turn.i64_or _ _ (x62 l1) (x62 l2)).1, (turn.i64_or _ _ (x62 (or32 l1 l2)) (x62 l3)).1, (turn.i64_or _ _ (x62 (or32 (or32 l1 l2) l3)) (by omega)).1]
end Go.Proofs.Ytkkildgdeagpeah.sbits

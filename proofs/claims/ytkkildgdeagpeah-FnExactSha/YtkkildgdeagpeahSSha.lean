/- The key of a text, as the specification reckons it. -/
import Derived.Test.YtkkildgdeagpeahSBits
import Derived.Test.YtkkildgdeagpeahSFrac
namespace Go.Proofs.Ytkkildgdeagpeah.ssha
open Go.ChangeShapes Go.WideShapes Go.ChangeAt Go.RowKit
open Go.Proofs.Ytkkildgdeagpeah.bytes Go.Proofs.Ytkkildgdeagpeah.pile Go.Proofs.Ytkkildgdeagpeah.rot Go.Proofs.Ytkkildgdeagpeah.arr Go.Proofs.Ytkkildgdeagpeah.primes Go.Proofs.Ytkkildgdeagpeah.rule Go.Proofs.Ytkkildgdeagpeah.turn Go.Proofs.Ytkkildgdeagpeah.word Go.Proofs.Ytkkildgdeagpeah.round Go.Proofs.Ytkkildgdeagpeah.block Go.Proofs.Ytkkildgdeagpeah.pad Go.Proofs.Ytkkildgdeagpeah.dig Go.Proofs.Ytkkildgdeagpeah.keys Go.Proofs.Ytkkildgdeagpeah.isha Go.Proofs.Ytkkildgdeagpeah.hex Go.Proofs.Ytkkildgdeagpeah.specpr Go.Proofs.Ytkkildgdeagpeah.sfrac Go.Proofs.Ytkkildgdeagpeah.sbits
set_option linter.unusedVariables false

/-- The contract of the specification's mixing of a block. -/
def BlkE : Prop := ∀ (w : World) (gh gk b o ch ck cap : Nat) (st bs ks : List Nat), st.length = 8 → (∀ x ∈ st, x < 4294967296) → bs.length = 64 → (∀ x ∈ bs, x < 256) → 64 ≤ cap → cap ≤ maxLen →
    ks.length = 64 → (∀ x ∈ ks, x < 4294967296) → gh < w.heap.size → gk < w.heap.size → b < w.heap.size →
    (∀ i, i < 8 → w.cell? ⟨gh, i, none⟩ = some (.int .i64 (st.getD i 0 : Nat))) → (∀ i, i < 64 → w.cell? ⟨gk, i, none⟩ = some (.int .i64 (ks.getD i 0 : Nat))) →
    (∀ i, i < 64 → w.cell? ⟨b, o + i, none⟩ = some (.int .u8 (bs.getD i 0 : Nat))) →
    Calls Try.prog 46 #[.slice (some ⟨gh, 0, none⟩) 8 ch, .slice (some ⟨gk, 0, none⟩) 64 ck, .slice (some ⟨b, o, none⟩) 64 cap] w fun e w' => ∃ g c, e = .returned (.slice (some ⟨g, 0, none⟩) 8 c) ∧ RowI w' w.heap.size (.slice (some ⟨g, 0, none⟩) 8 c) (blkN st bs ks) ∧ Below w.heap.size w w'
theorem rowI_keep {w w' : World} {base : Nat} {v : Value} {xs : List Nat} {r : Option Nat} (h : RowI w base v xs) (hg : w.grownBy w' r) (hn : ∀ b, v.ownBlock = some b → some b ≠ r) : RowI w' base v xs := by
  have hlt := World.ownsRow.lt h
  obtain ⟨h1, h2 | ⟨g, cap, cur, rfl, hbg, hgg, hnc, hcm, hcs, htake⟩⟩ := h
  · exact ⟨h1, .inl h2⟩
  · exact ⟨h1, .inr ⟨g, cap, cur, rfl, hbg, (hg.block g (hlt g rfl).2 (hn g rfl)).trans hgg, hnc, hcm, hcs, htake⟩⟩
theorem rowI_below {w w' : World} {base B : Nat} {v : Value} {xs : List Nat} (h : RowI w base v xs) (hb : Below B w w') (hB : w.heap.size ≤ B) : RowI w' base v xs := by
  have hlt := World.ownsRow.lt h
  obtain ⟨h1, h2 | ⟨g, cap, cur, rfl, hbg, hgg, hnc, hcm, hcs, htake⟩⟩ := h
  · exact ⟨h1, .inl h2⟩
  · exact ⟨h1, .inr ⟨g, cap, cur, rfl, hbg, (hb.block g (by have := (hlt g rfl).2; omega)).trans hgg, hnc, hcm, hcs, htake⟩⟩
theorem take_get (l : List Nat) (i : Nat) (h : i < l.length) : l.take (i + 1) = l.take i ++ [l.getD i 0] := by
  rw [List.take_succ_eq_append_getElem h, List.getD_eq_getElem?_getD, List.getElem?_eq_getElem h]
  rfl
theorem rule_dropget (i : Nat) (h : i < 64) : (ruleL.drop 8).getD i 0 = ruleL.getD (8 + i) 0 := (rule_b i h).2.symm
theorem rule_takeget (i : Nat) (h : i < 8) : (ruleL.take 8).getD i 0 = ruleL.getD i 0 := by
  have := (rule_a i h).2
  rw [Nat.zero_add] at this
  exact this.symm
theorem one_byte (w : World) (x : Nat) (hx : x < 256) : RdA (w.alloc (.cells #[.int .u8 (x : Nat)] 5)) (.slice (some ⟨w.heap.size, 0, none⟩) 1 1) [(x : Int)] := by
  have h := arr_rdA (w := w.alloc (.cells #[.int .u8 (x : Nat)] 5)) (g := w.heap.size) (t := 5) (xs := [x]) (Arr.new w 5 .u8 [x] _ (by simp [vals])) (by simpa using hx) (by simp [maxLen])
  exact h
theorem own_empty (w : World) (base : Nat) (hb : base ≤ w.heap.size) : Own (w.alloc (.cells #[] 5)) base (.slice (some ⟨w.heap.size, 0, none⟩) 0 0) [] :=
  ⟨by simp, World.ownsRow_lit (base := base) (e := 5) (size := 1) w #[] 0 hb (by simp [maxLen]) (by simp)⟩
theorem own_slice {w : World} {base : Nat} {v : Value} {xs : List Int} (h : Own w base v xs) (hp : 0 < xs.length) : ∃ g cap, v = .slice (some ⟨g, 0, none⟩) xs.length cap ∧ xs.length ≤ cap ∧ cap ≤ maxLen ∧ g < w.heap.size ∧ base ≤ g ∧ (∀ x ∈ xs, 0 ≤ x ∧ x ≤ 255) ∧ ∀ i, i < xs.length → w.cell? ⟨g, i, none⟩ = some (.int .u8 (xs.getD i 0)) := by
  have hrd := h.rd
  have hlt := h.lt
  obtain ⟨hx, h1, ⟨rfl, h2⟩ | ⟨g, cap, cur, rfl, hb, hg, hnc, hcm, hcs, htake⟩⟩ := h
  · omega
  · obtain ⟨ao, cap', e, _, _, _, hc⟩ := hrd
    simp only [Value.slice.injEq] at e
    obtain ⟨rfl, _, rfl⟩ := e
    obtain ⟨b', off, e2, hc⟩ := hc hp
    simp only [Option.some.injEq, Addr.mk.injEq] at e2
    obtain ⟨rfl, rfl, _⟩ := e2
    refine ⟨g, cap, rfl, hnc, hcm, (hlt g rfl).2, hb, hx, fun i hi => ?_⟩
    have := hc i hi
    rwa [Nat.zero_add] at this
theorem Own.alloc {w : World} {base : Nat} {v : Value} {xs : List Int} (h : Own w base v xs) (o : Obj) : Own (w.alloc o) base v xs := h.below ((Below.refl w.heap.size w).alloc (Nat.le_refl _) o) (Nat.le_refl _)

/-- The constants: the first i of those of the rounds; of those of the beginning. -/
def kT (i : Nat) : List Nat := (ruleL.drop 8).take i
def hT (i : Nat) : List Nat := (ruleL.take 8).take i
theorem kT_succ (i : Nat) (h : i < 64) : kT (i + 1) = kT i ++ [ruleL.getD (8 + i) 0] := by
  unfold kT
  rw [take_get _ _ (by rw [len_b]; exact h), rule_dropget i h]
theorem hT_succ (i : Nat) (h : i < 8) : hT (i + 1) = hT i ++ [ruleL.getD i 0] := by
  unfold hT
  rw [take_get _ _ (by rw [len_a]; exact h), rule_takeget i h]
theorem hT_stay (i : Nat) (h : ¬ i < 8) : hT (i + 1) = hT i := by
  unfold hT
  rw [List.take_of_length_le (l := ruleL.take 8) (i := i + 1) (by rw [len_a]; omega), List.take_of_length_le (l := ruleL.take 8) (i := i) (by rw [len_a]; omega)]
theorem kT_all : kT 64 = ruleL.drop 8 := by unfold kT; rw [List.take_of_length_le (by rw [len_b]; omega)]
theorem hT_all : hT 64 = ruleL.take 8 := by unfold hT; rw [List.take_of_length_le (by rw [len_a]; omega)]
/-- A text, the byte 128 and so many noughts. -/
def pz (xs : List Int) (z : Nat) : List Int := xs ++ 128 :: List.replicate z 0
theorem pz_succ (xs : List Int) (z : Nat) : pz xs (z + 1) = pz xs z ++ [0] := by unfold pz; rw [List.replicate_succ']; simp
theorem pz_len (xs : List Int) (z : Nat) : (pz xs z).length = xs.length + 1 + z := by unfold pz; simp; omega
def pb (xs : List Int) (j : Nat) : List Int := pz xs (63 - (xs.length + 8) % 64) ++ ltA xs.length j
theorem pb_zero (xs : List Int) : pb xs 0 = pz xs (63 - (xs.length + 8) % 64) := by unfold pb ltA; simp
theorem pb_succ (xs : List Int) (j : Nat) : pb xs (j + 1) = pb xs j ++ [((8 * xs.length / 2 ^ (8 * (7 - j)) % 256 : Nat) : Int)] := by unfold pb; rw [ltA_succ, List.append_assoc]
theorem pb_len (xs : List Int) (j : Nat) : (pb xs j).length = xs.length + 1 + (63 - (xs.length + 8) % 64) + j := by unfold pb ltA; rw [List.length_append, pz_len]; simp
theorem pb_all (xs : List Int) : pb xs 8 = padN xs := by unfold pb padN pz; rw [ltA_all]; simp
theorem app_own {wr wx w' : World} {o : Obj} {v v' : Value} {ys zs : List Int} (HO : Own wx wr.heap.size v ys) (HB : Below wr.heap.size wr wx) (hown : Own w' wr.heap.size v' zs) (hg : (wx.alloc o).grownBy w' v.ownBlock) (l : Nat) (hl : zs.length = l) (hp : 0 < l) : ∃ g cap, v' = .slice (some ⟨g, 0, none⟩) l cap ∧ Hid (Own w' wr.heap.size (.slice (some ⟨g, 0, none⟩) l cap) zs ∧ Below wr.heap.size wr w') := by
  obtain ⟨g, cap, rfl, _⟩ := own_slice hown (by omega)
  rw [hl] at hown
  refine ⟨g, cap, by rw [hl], hide ⟨hown, (HB.alloc HB.size o).grown hg ?_ (fun k hk => (HO.lt k hk).1)⟩⟩
  have := HB.size
  simp
  omega
theorem hxs_len (st : List Nat) (j : Nat) : (hxs st j).length = 8 * j := by
  induction j with
  | zero => rfl
  | succ j ih => rw [hxs, List.length_append, ih]; simp [hx]; omega
structure ShaIs (xs : List Int) (st : List Nat) : Prop where
  out : shaN xs = hxs st 8
theorem kT_len (i : Nat) : (kT i).length ≤ 1000 := by unfold kT; rw [List.length_take, len_b]; omega
theorem hT_len (i : Nat) : (hT i).length ≤ 1000 := by unfold hT; rw [List.length_take, len_a]; omega
set_option maxRecDepth 20000 in
set_option maxHeartbeats 8000000 in
theorem lsha_any (HBk : BlkE) (w : World) (ao : Option Addr) (cap : Nat) (xs : List Int) (hl : xs.length ≤ 65536) (h : RdA w (.slice ao xs.length cap) xs) :
    Calls Try.prog 26 #[.slice ao xs.length cap] w fun e w' => e = .returned (.string (strOfNums (shaN xs))) ∧ Below w.heap.size w w' := by
  have HRd := hide h
  clear h
  have HBk' := hide HBk
  clear HBk
  have HP := hide (primes_any w)
  go_enter Try.func26, Try.ntmps26
  go_wp2_with fail
  refine HP.out.mono ?_
  rintro e w1 ⟨op, cp, rfl, R1, B1⟩
  obtain ⟨hx0, hcells⟩ := R1.cells
  clear hx0
  obtain ⟨G, rfl, hcG⟩ := hcells (by omega)
  have hGlt : G < w1.heap.size := cell_lt (hcG 0 (by omega))
  have HG := hide hcG
  have HB1 := hide B1
  have hB1s := B1.size
  clear HP hcells hcG R1 B1
  obtain ⟨W2, hW2⟩ : ∃ W2, W2 = (w1.alloc (.cells #[] 3)).alloc (.cells #[] 3) := ⟨_, rfl⟩
  have HS : Hid (RowI W2 w1.heap.size (.slice (some ⟨w1.heap.size, 0, none⟩) 0 0) [] ∧ RowI W2 w1.heap.size (.slice (some ⟨w1.heap.size + 1, 0, none⟩) 0 0) [] ∧ Below w1.heap.size w1 W2) := by
    rw [hW2]
    refine hide ⟨?_, ?_, ((Below.refl _ _).alloc (Nat.le_refl _) _).alloc (by simp) _⟩
    · exact World.ownsRow.alloc (World.ownsRow_lit (base := w1.heap.size) (e := 3) (size := 1) w1 #[] 0 (Nat.le_refl _) (by simp [maxLen]) (by simp)) _
    · have hr := World.ownsRow_lit (base := w1.heap.size) (e := 3) (size := 1) (w1.alloc (.cells #[] 3)) #[] 0 (by simp) (by simp [maxLen]) (by simp)
      rw [show (w1.alloc (.cells #[] 3)).heap.size = w1.heap.size + 1 by simp] at hr
      exact hr
  go_wp2
  rw [← hW2]
  clear hW2
  go_loopw [4, 5, 6] (fun kv hv iv wr => ∃ (i lk lh : Nat) (ok oh : Option Addr) (ck ch : Nat), i ≤ 64 ∧ iv = .int .i64 i ∧ kv = .slice ok lk ck ∧ hv = .slice oh lh ch ∧ Hid (RowI wr w1.heap.size (.slice ok lk ck) (kT i) ∧ RowI wr w1.heap.size (.slice oh lh ch) (hT i) ∧ Below w1.heap.size w1 wr ∧ ∀ b, (Value.slice oh lh ch).ownBlock = some b → some b ≠ (Value.slice ok lk ck).ownBlock)) (fun _ _ iv _ => 64 - (intOf iv).toNat)
  case atStart => exact ⟨0, 0, 0, _, _, 0, 0, by omega, rfl, rfl, rfl, hide ⟨HS.out.1, HS.out.2.1, HS.out.2.2, fun b hb => by simp [Value.ownBlock] at hb ⊢; omega⟩⟩
  case round =>
    obtain ⟨i, lk, lh, ok, oh, ck, ch, hi, rfl, rfl, rfl, HR⟩ := hrel
    clear HS
    by_cases h64 : i < 64
    · have HCi : Hid (∀ W, Below w1.heap.size w1 W → W.cell? ⟨G, i, none⟩ = some (.int .i64 ((prT 312).getD i 0 : Nat))) := hide (fun W hW => (hW.cell hGlt).trans (HG.out i h64))
      have ci := HCi.out wr HR.out.2.2.1
      have HF := hide (frac3_any wr i h64)
      have HF2 := hide (fun W (h8 : i < 8) => frac2_any W i h8)
      have HT := hide (kT_succ i h64)
      have HLk := hide (kT_len i)
      have HLh := hide (hT_len i)
      have hsz := HR.out.2.2.1.size
      generalize (prT 312).getD i 0 = p at ci HCi HF HF2
      generalize ruleL.getD (8 + i) 0 = V at HF HT
      go_wp2_with fail
      refine HF.out.mono ?_
      rintro e w2 ⟨rfl, B2⟩
      have HR2 : Hid (RowI w2 w1.heap.size (.slice ok lk ck) (kT i) ∧ RowI w2 w1.heap.size (.slice oh lh ch) (hT i) ∧ Below w1.heap.size w1 w2) := hide ⟨rowI_below HR.out.1 B2 (Nat.le_refl _), rowI_below HR.out.2.1 B2 (Nat.le_refl _), HR.out.2.2.1.trans (B2.mono hsz)⟩
      have HNe := hide HR.out.2.2.2
      have hsz2 := HR2.out.2.2.size
      clear HF B2 HR ci
      have HR1 : Hid (RowI (w2.alloc (.cells #[.int .i64 (V : Nat)] 3)) w1.heap.size (.slice ok lk ck) (kT i)) := hide (World.ownsRow.alloc HR2.out.1 _)
      have HCell : Hid ((w2.alloc (.cells #[.int .i64 (V : Nat)] 3)).cell? ⟨w2.heap.size, 0, none⟩ = some (.int .i64 (V : Nat))) := hide ((Arr.new w2 3 .i64 [V] #[.int .i64 (V : Nat)] rfl).cell (i := 0) (by simp))
      obtain ⟨l3, hl3⟩ : ∃ l3, l3 = (kT i).length + 1 := ⟨_, rfl⟩
      have HGo : Hid (∀ g3 cap3 w3, RowI w3 w1.heap.size (.slice (some ⟨g3, 0, none⟩) ((kT i).length + 1) cap3) (kT i ++ [V]) → (w2.alloc (.cells #[.int .i64 (V : Nat)] 3)).grownBy w3 (Value.slice ok lk ck).ownBlock → ((Value.slice ok lk ck).ownBlock = some g3 ∨ g3 = (w2.alloc (.cells #[.int .i64 (V : Nat)] 3)).heap.size) → RowI w3 w1.heap.size (.slice (some ⟨g3, 0, none⟩) l3 cap3) (kT (i + 1)) ∧ RowI w3 w1.heap.size (.slice oh lh ch) (hT i) ∧ Below w1.heap.size w1 w3 ∧ ∀ b, (Value.slice oh lh ch).ownBlock = some b → b ≠ g3) := by
        refine hide (fun g3 cap3 w3 hown3 hgrow3 hat3 => ⟨by rw [HT.out, hl3]; exact hown3, rowI_keep (World.ownsRow.alloc HR2.out.2.1 _) hgrow3 HNe.out, (HR2.out.2.2.alloc hsz2 _).grown hgrow3 (by simp; omega) (fun j hj => (World.ownsRow.lt HR2.out.1 j hj).1), fun b hb e => ?_⟩)
        subst e
        rcases hat3 with h | h
        · exact HNe.out b hb h.symm
        · have h2 := (World.ownsRow.lt HR2.out.2.1 b hb).2
          simp at h
          omega
      clear HNe HT
      by_cases h8 : i < 8
      · go_wp2_with (at_builtin; refine wpList_append_int _ rfl _ _ rfl w1.heap.size (.slice ok lk ck) (kT i) rfl HR1.out ⟨w2.heap.size, 0, none⟩ V rfl HCell.out HLk.out (by simp; omega) ?_; intro g3 cap3 w3 hown3 hgrow3 hat3 hlt3; have HR3 := hide (HGo.out g3 cap3 w3 hown3 hgrow3 hat3); have ci3 := HCi.out w3 HR3.out.2.2.1; clear hown3 hgrow3 hat3; rw [← hl3])
        have hsz3 := HR3.out.2.2.1.size
        have HF := hide (HF2.out w3 h8)
        have HT := hide (hT_succ i h8)
        generalize ruleL.getD i 0 = V3 at HF HT
        refine HF.out.mono ?_
        rintro e w4 ⟨rfl, B4⟩
        have HR4 : Hid (RowI w4 w1.heap.size (.slice (some ⟨g3, 0, none⟩) l3 cap3) (kT (i + 1)) ∧ RowI w4 w1.heap.size (.slice oh lh ch) (hT i) ∧ Below w1.heap.size w1 w4) := hide ⟨rowI_below HR3.out.1 B4 (Nat.le_refl _), rowI_below HR3.out.2.1 B4 (Nat.le_refl _), HR3.out.2.2.1.trans (B4.mono hsz3)⟩
        have HNe3 := hide HR3.out.2.2.2
        have hsz4 := HR4.out.2.2.size
        clear HF B4 HR3 ci3 HR1 HCell HGo HCi HF2
        have HR1 : Hid (RowI (w4.alloc (.cells #[.int .i64 (V3 : Nat)] 3)) w1.heap.size (.slice oh lh ch) (hT i)) := hide (World.ownsRow.alloc HR4.out.2.1 _)
        have HCell : Hid ((w4.alloc (.cells #[.int .i64 (V3 : Nat)] 3)).cell? ⟨w4.heap.size, 0, none⟩ = some (.int .i64 (V3 : Nat))) := hide ((Arr.new w4 3 .i64 [V3] #[.int .i64 (V3 : Nat)] rfl).cell (i := 0) (by simp))
        obtain ⟨l5, hl5⟩ : ∃ l5, l5 = (hT i).length + 1 := ⟨_, rfl⟩
        have HGo : Hid (∀ g5 cap5 w5, RowI w5 w1.heap.size (.slice (some ⟨g5, 0, none⟩) ((hT i).length + 1) cap5) (hT i ++ [V3]) → (w4.alloc (.cells #[.int .i64 (V3 : Nat)] 3)).grownBy w5 (Value.slice oh lh ch).ownBlock → ((Value.slice oh lh ch).ownBlock = some g5 ∨ g5 = (w4.alloc (.cells #[.int .i64 (V3 : Nat)] 3)).heap.size) → RowI w5 w1.heap.size (.slice (some ⟨g3, 0, none⟩) l3 cap3) (kT (i + 1)) ∧ RowI w5 w1.heap.size (.slice (some ⟨g5, 0, none⟩) l5 cap5) (hT (i + 1)) ∧ Below w1.heap.size w1 w5 ∧ ∀ b, (Value.slice (some ⟨g5, 0, none⟩) l5 cap5).ownBlock = some b → some b ≠ (Value.slice (some ⟨g3, 0, none⟩) l3 cap3).ownBlock) := by
          refine hide (fun g5 cap5 w5 hown5 hgrow5 hat5 => ⟨rowI_keep (World.ownsRow.alloc HR4.out.1 _) hgrow5 (fun b hb e => ?_), by rw [HT.out, hl5]; exact hown5, (HR4.out.2.2.alloc hsz4 _).grown hgrow5 (by simp; omega) (fun j hj => (World.ownsRow.lt HR4.out.2.1 j hj).1), fun b hb e => ?_⟩)
          · simp only [Value.ownBlock, Option.some.injEq] at hb
            exact HNe3.out b e.symm hb.symm
          · simp only [Value.ownBlock, Option.some.injEq] at hb e
            subst hb
            rcases hat5 with h | h
            · exact HNe3.out _ h e
            · have h2 := (World.ownsRow.lt HR4.out.1 g3 rfl).2
              simp at h
              omega
        go_wp2_with (at_builtin; refine wpList_append_int _ rfl _ _ rfl w1.heap.size (.slice oh lh ch) (hT i) rfl HR1.out ⟨w4.heap.size, 0, none⟩ V3 rfl HCell.out HLh.out (by simp; omega) ?_; intro g5 cap5 w5 hown5 hgrow5 hat5 hlt5; have HR5 := hide (HGo.out g5 cap5 w5 hown5 hgrow5 hat5); clear hown5 hgrow5 hat5; rw [← hl5])
        go_roundw
        case rel => exact ⟨i + 1, l3, l5, some ⟨g3, 0, none⟩, some ⟨g5, 0, none⟩, cap3, cap5, by omega, by go_num, by first | rfl | rw [hl3], by first | rfl | rw [hl5], HR5⟩
        case measure => simp [intOf]; omega
      · have HT := hide (hT_stay i h8)
        go_wp2_with (at_builtin; refine wpList_append_int _ rfl _ _ rfl w1.heap.size (.slice ok lk ck) (kT i) rfl HR1.out ⟨w2.heap.size, 0, none⟩ V rfl HCell.out HLk.out (by simp; omega) ?_; intro g3 cap3 w3 hown3 hgrow3 hat3 hlt3; have HR3 := hide (HGo.out g3 cap3 w3 hown3 hgrow3 hat3); clear hown3 hgrow3 hat3; rw [← hl3])
        go_roundw
        case rel => exact ⟨i + 1, l3, lh, some ⟨g3, 0, none⟩, oh, cap3, ch, by omega, by go_num, by first | rfl | rw [hl3], rfl, hide ⟨HR3.out.1, by rw [HT.out]; exact HR3.out.2.1, HR3.out.2.2.1, fun b hb e => HR3.out.2.2.2 b hb (by simpa [Value.ownBlock] using e)⟩⟩
        case measure => simp [intOf]; omega
    · obtain rfl : i = 64 := by omega
      obtain ⟨hl1, hck0⟩ := HR.out.1.cells
      obtain ⟨hl2, hch0⟩ := HR.out.2.1.cells
      rw [kT_all] at hl1 hck0
      rw [hT_all] at hl2 hch0
      rw [len_b] at hl1
      rw [len_a] at hl2
      subst hl1 hl2
      obtain ⟨gk, hgke, hck⟩ := hck0 (by omega)
      obtain ⟨gh, hghe, hch⟩ := hch0 (by omega)
      subst hgke hghe
      have HCk := hide hck
      have HCh := hide hch
      have hgk : gk < wr.heap.size := cell_lt (hck 0 (by omega))
      have hgh : gh < wr.heap.size := cell_lt (hch 0 (by omega))
      clear hck0 hch0
      have HBr := hide (HB1.out.trans (HR.out.2.2.1.mono hB1s))
      have hszr := HBr.out.size
      clear hck hch HR HG hGlt HB1 hB1s
      have HRd2 : Hid (RdA (wr.alloc (.cells #[] 5)) (.slice ao xs.length cap) xs) := hide (HRd.out.below (HBr.out.alloc hszr _) (Nat.le_refl _))
      have HO0 : Hid (Own (wr.alloc (.cells #[] 5)) wr.heap.size (.slice (some ⟨wr.heap.size, 0, none⟩) 0 0) []) := hide (own_empty wr _ (Nat.le_refl _))
      obtain ⟨WR, hWR⟩ : ∃ W, W = wr := ⟨_, rfl⟩
      subst hWR
      have HO3x : Hid (∀ v2 w2 v3 w3, Own w2 WR.heap.size v2 ([] ++ xs) → (WR.alloc (.cells #[] 5)).grownBy w2 (Value.slice (some ⟨WR.heap.size, 0, none⟩) 0 0).ownBlock → Own w3 WR.heap.size v3 (xs ++ [128]) → (w2.alloc (.cells #[.int .u8 128] 5)).grownBy w3 v2.ownBlock → ∃ g cap, v3 = .slice (some ⟨g, 0, none⟩) (xs.length + 1) cap ∧ Hid (Own w3 WR.heap.size (.slice (some ⟨g, 0, none⟩) (xs.length + 1) cap) (pz xs 0) ∧ Below WR.heap.size WR w3)) := by
        refine hide (fun v2 w2 v3 w3 h1 h2 h3 h4 => ?_)
        have hb2 : Below WR.heap.size WR w2 := ((Below.refl WR.heap.size WR).alloc (Nat.le_refl _) _).grown h2 (by simp) (fun k hk => by simp [Value.ownBlock] at hk; omega)
        exact app_own h1 hb2 h3 h4 (xs.length + 1) (by simp) (by omega)
      go_wp2_with (first | (at_builtin; refine wpList_append_rd _ rfl _ _ 22 rfl Try.underlying22 info5 WR.heap.size _ [] rfl HO0.out _ xs rfl HRd2.out (by simp; omega) (by simp) ?_; intro v2 w2 hown2 hgrow2) | (at_builtin; refine wpList_append_rd _ rfl _ _ 22 rfl Try.underlying22 info5 WR.heap.size _ xs rfl (Own.alloc hown2 _) _ [128] rfl (one_byte w2 128 (by decide)) (by simp; omega) (by have := hgrow2.size; simp at this ⊢; omega) ?_; intro v3 w3 hown3 hgrow3; obtain ⟨gm0, cm0, rfl, HM0⟩ := HO3x.out v2 w2 v3 w3 hown2 hgrow2 hown3 hgrow3))
      clear hown2 hgrow2 hown3 hgrow3 HO3x HO0 HRd2
      obtain ⟨l0, hl0⟩ : ∃ l0, l0 = xs.length + 1 := ⟨_, rfl⟩
      rw [← hl0] at HM0 ⊢
      have HL0 := hide hl0
      clear hl0
      obtain ⟨Z, hZ⟩ : ∃ Z, Z = 63 - (xs.length + 8) % 64 := ⟨_, rfl⟩
      have HZ := hide hZ
      clear hZ
      go_loopw [7] (fun mv wr => ∃ (z l gm cm : Nat), z ≤ Z ∧ mv = .slice (some ⟨gm, 0, none⟩) l cm ∧ Hid (l = xs.length + 1 + z) ∧ Hid (Own wr WR.heap.size (.slice (some ⟨gm, 0, none⟩) l cm) (pz xs z) ∧ Below WR.heap.size WR wr)) (fun mv _ => (xs.length + 1 + Z) - (match mv with | .slice _ n _ => n | _ => 0))
      case atStart => exact ⟨0, l0, gm0, cm0, by omega, rfl, hide (by rw [HL0.out]), HM0⟩
      case round =>
        obtain ⟨z, l, gm, cm, hz, rfl, HLz, HX⟩ := hrel
        clear HM0 HL0
        have hl1 : l ≤ 70000 := by have := HLz.out; have := HZ.out; omega
        have hpm := pad_mod xs.length z (by rw [← HZ.out]; exact hz)
        rw [← HLz.out, ← HZ.out] at hpm
        by_cases hzz : z < Z
        · have hmod : ¬ (l : Int) % 64 = 56 := by omega
          clear hpm
          obtain ⟨l2, hl2⟩ : ∃ l2, l2 = xs.length + 1 + (z + 1) := ⟨_, rfl⟩
          have HL2 := hide hl2
          have HGo : Hid (∀ v' w', Own w' WR.heap.size v' (pz xs z ++ [0]) → (wr.alloc (.cells #[.int .u8 0] 5)).grownBy w' (Value.slice (some ⟨gm, 0, none⟩) l cm).ownBlock → ∃ g' cap', v' = .slice (some ⟨g', 0, none⟩) l2 cap' ∧ Hid (Own w' WR.heap.size (.slice (some ⟨g', 0, none⟩) l2 cap') (pz xs (z + 1)) ∧ Below WR.heap.size WR w')) := hide (fun v' w' h1 h2 => by
            rw [pz_succ]
            exact app_own HX.out.1 HX.out.2 h1 h2 l2 (by rw [← pz_succ, pz_len, hl2]) (by omega))
          have HLp : Hid ((pz xs z).length + 1 ≤ 140737488355328) := hide (by rw [pz_len]; have := HZ.out; omega)
          have hbs := HX.out.2.size
          have HOx := hide (Own.alloc HX.out.1 (.cells #[.int .u8 0] 5))
          have HOb := hide (one_byte wr 0 (by decide))
          clear hl2
          go_wp2_with (at_builtin; refine wpList_append_rd _ rfl _ _ 22 rfl Try.underlying22 info5 WR.heap.size _ (pz xs z) rfl HOx.out _ [0] rfl HOb.out HLp.out (by simp; omega) ?_; intro v9 w9 hown9 hgrow9; obtain ⟨g9, cap9, rfl, HX9⟩ := HGo.out v9 w9 hown9 hgrow9; clear hown9 hgrow9)
          go_roundw
          case rel => exact ⟨z + 1, l2, g9, cap9, by omega, rfl, HL2, HX9⟩
          case measure => have := HL2.out; have := HLz.out; simp; omega
        · have hzZ : z = Z := by omega
          have hmod : (l : Int) % 64 = 56 := by have := hpm.2 hzZ; omega
          have HLb : Hid (l = (pb xs 0).length) := hide (by rw [pb_len, HLz.out, ← HZ.out]; omega)
          have HXb : Hid (Own wr WR.heap.size (.slice (some ⟨gm, 0, none⟩) l cm) (pb xs 0) ∧ Below WR.heap.size WR wr) := by
            rw [pb_zero, ← HZ.out, ← hzZ]
            exact HX
          clear hpm hzz HX HLz hz hzZ HZ
          go_wp2
          go_loopw [7, 9] (fun mv iv wr => ∃ (j l gm cm : Nat), j ≤ 8 ∧ iv = .int .i64 (7 - (j : Int)) ∧ mv = .slice (some ⟨gm, 0, none⟩) l cm ∧ Hid (l = (pb xs j).length) ∧ Hid (Own wr WR.heap.size (.slice (some ⟨gm, 0, none⟩) l cm) (pb xs j) ∧ Below WR.heap.size WR wr)) (fun _ iv _ => (intOf iv + 1).toNat)
          case atStart => exact ⟨0, l, gm, cm, by omega, rfl, rfl, HLb, HXb⟩
          case round =>
            clear HXb HLb hmod hl1
            obtain ⟨j, l, gm, cm, hj, rfl, rfl, HLj, HX⟩ := hrel
            rcases (show j = 0 ∨ j = 1 ∨ j = 2 ∨ j = 3 ∨ j = 4 ∨ j = 5 ∨ j = 6 ∨ j = 7 ∨ j = 8 by omega) with rfl | rfl | rfl | rfl | rfl | rfl | rfl | rfl | rfl
            · have HV := hide (pb_succ xs 0)
              have hv : (8 * (xs.length : Int)) / 72057594037927936 = ((8 * xs.length / 2 ^ (8 * (7 - 0)) % 256 : Nat) : Int) := by
                rw [show (2 : Nat) ^ (8 * (7 - 0)) = 72057594037927936 by decide]
                omega
              have hVl : 8 * xs.length / 2 ^ (8 * (7 - 0)) % 256 < 256 := Nat.mod_lt _ (by decide)
              generalize 8 * xs.length / 2 ^ (8 * (7 - 0)) % 256 = V at HV hv hVl
              obtain ⟨l2, hl2⟩ : ∃ l2, l2 = xs.length + 1 + (63 - (xs.length + 8) % 64) + 0 + 1 := ⟨_, rfl⟩
              have HGo : Hid (∀ v' w', Own w' WR.heap.size v' (pb xs 0 ++ [(V : Int)]) → (wr.alloc (.cells #[.int .u8 (V : Nat)] 5)).grownBy w' (Value.slice (some ⟨gm, 0, none⟩) l cm).ownBlock → ∃ g' cap', v' = .slice (some ⟨g', 0, none⟩) l2 cap' ∧ Hid (Own w' WR.heap.size (.slice (some ⟨g', 0, none⟩) l2 cap') (pb xs (0 + 1)) ∧ Below WR.heap.size WR w')) := hide (fun v' w' h1 h2 => by
                rw [HV.out]
                exact app_own HX.out.1 HX.out.2 h1 h2 l2 (by rw [← HV.out, pb_len, hl2]) (by omega))
              have HL2 : Hid (l2 = (pb xs (0 + 1)).length) := hide (by rw [pb_len, hl2])
              have HLp : Hid ((pb xs 0).length + 1 ≤ 140737488355328) := hide (by rw [pb_len]; omega)
              have hbs := HX.out.2.size
              have HOx := hide (Own.alloc HX.out.1 (.cells #[.int .u8 (V : Nat)] 5))
              have HOb := hide (one_byte wr V hVl)
              clear hl2
              go_wp2_with (at_builtin; refine wpList_append_rd _ rfl _ _ 22 rfl Try.underlying22 info5 WR.heap.size _ (pb xs 0) rfl HOx.out _ [(V : Int)] rfl HOb.out HLp.out (by simp; omega) ?_; intro v9 w9 hown9 hgrow9; obtain ⟨g9, cap9, rfl, HX9⟩ := HGo.out v9 w9 hown9 hgrow9; clear hown9 hgrow9)
              go_roundw
              case rel => exact ⟨0 + 1, l2, g9, cap9, by omega, by go_num, rfl, HL2, HX9⟩
              case measure => simp [intOf]
            · have HV := hide (pb_succ xs 1)
              have hv : (8 * (xs.length : Int)) / 281474976710656 = ((8 * xs.length / 2 ^ (8 * (7 - 1)) % 256 : Nat) : Int) := by
                rw [show (2 : Nat) ^ (8 * (7 - 1)) = 281474976710656 by decide]
                omega
              have hVl : 8 * xs.length / 2 ^ (8 * (7 - 1)) % 256 < 256 := Nat.mod_lt _ (by decide)
              generalize 8 * xs.length / 2 ^ (8 * (7 - 1)) % 256 = V at HV hv hVl
              obtain ⟨l2, hl2⟩ : ∃ l2, l2 = xs.length + 1 + (63 - (xs.length + 8) % 64) + 1 + 1 := ⟨_, rfl⟩
              have HGo : Hid (∀ v' w', Own w' WR.heap.size v' (pb xs 1 ++ [(V : Int)]) → (wr.alloc (.cells #[.int .u8 (V : Nat)] 5)).grownBy w' (Value.slice (some ⟨gm, 0, none⟩) l cm).ownBlock → ∃ g' cap', v' = .slice (some ⟨g', 0, none⟩) l2 cap' ∧ Hid (Own w' WR.heap.size (.slice (some ⟨g', 0, none⟩) l2 cap') (pb xs (1 + 1)) ∧ Below WR.heap.size WR w')) := hide (fun v' w' h1 h2 => by
                rw [HV.out]
                exact app_own HX.out.1 HX.out.2 h1 h2 l2 (by rw [← HV.out, pb_len, hl2]) (by omega))
              have HL2 : Hid (l2 = (pb xs (1 + 1)).length) := hide (by rw [pb_len, hl2])
              have HLp : Hid ((pb xs 1).length + 1 ≤ 140737488355328) := hide (by rw [pb_len]; omega)
              have hbs := HX.out.2.size
              have HOx := hide (Own.alloc HX.out.1 (.cells #[.int .u8 (V : Nat)] 5))
              have HOb := hide (one_byte wr V hVl)
              clear hl2
              go_wp2_with (at_builtin; refine wpList_append_rd _ rfl _ _ 22 rfl Try.underlying22 info5 WR.heap.size _ (pb xs 1) rfl HOx.out _ [(V : Int)] rfl HOb.out HLp.out (by simp; omega) ?_; intro v9 w9 hown9 hgrow9; obtain ⟨g9, cap9, rfl, HX9⟩ := HGo.out v9 w9 hown9 hgrow9; clear hown9 hgrow9)
              go_roundw
              case rel => exact ⟨1 + 1, l2, g9, cap9, by omega, by go_num, rfl, HL2, HX9⟩
              case measure => simp [intOf]
            · have HV := hide (pb_succ xs 2)
              have hv : (8 * (xs.length : Int)) / 1099511627776 = ((8 * xs.length / 2 ^ (8 * (7 - 2)) % 256 : Nat) : Int) := by
                rw [show (2 : Nat) ^ (8 * (7 - 2)) = 1099511627776 by decide]
                omega
              have hVl : 8 * xs.length / 2 ^ (8 * (7 - 2)) % 256 < 256 := Nat.mod_lt _ (by decide)
              generalize 8 * xs.length / 2 ^ (8 * (7 - 2)) % 256 = V at HV hv hVl
              obtain ⟨l2, hl2⟩ : ∃ l2, l2 = xs.length + 1 + (63 - (xs.length + 8) % 64) + 2 + 1 := ⟨_, rfl⟩
              have HGo : Hid (∀ v' w', Own w' WR.heap.size v' (pb xs 2 ++ [(V : Int)]) → (wr.alloc (.cells #[.int .u8 (V : Nat)] 5)).grownBy w' (Value.slice (some ⟨gm, 0, none⟩) l cm).ownBlock → ∃ g' cap', v' = .slice (some ⟨g', 0, none⟩) l2 cap' ∧ Hid (Own w' WR.heap.size (.slice (some ⟨g', 0, none⟩) l2 cap') (pb xs (2 + 1)) ∧ Below WR.heap.size WR w')) := hide (fun v' w' h1 h2 => by
                rw [HV.out]
                exact app_own HX.out.1 HX.out.2 h1 h2 l2 (by rw [← HV.out, pb_len, hl2]) (by omega))
              have HL2 : Hid (l2 = (pb xs (2 + 1)).length) := hide (by rw [pb_len, hl2])
              have HLp : Hid ((pb xs 2).length + 1 ≤ 140737488355328) := hide (by rw [pb_len]; omega)
              have hbs := HX.out.2.size
              have HOx := hide (Own.alloc HX.out.1 (.cells #[.int .u8 (V : Nat)] 5))
              have HOb := hide (one_byte wr V hVl)
              clear hl2
              go_wp2_with (at_builtin; refine wpList_append_rd _ rfl _ _ 22 rfl Try.underlying22 info5 WR.heap.size _ (pb xs 2) rfl HOx.out _ [(V : Int)] rfl HOb.out HLp.out (by simp; omega) ?_; intro v9 w9 hown9 hgrow9; obtain ⟨g9, cap9, rfl, HX9⟩ := HGo.out v9 w9 hown9 hgrow9; clear hown9 hgrow9)
              go_roundw
              case rel => exact ⟨2 + 1, l2, g9, cap9, by omega, by go_num, rfl, HL2, HX9⟩
              case measure => simp [intOf]
            · have HV := hide (pb_succ xs 3)
              have hv : (8 * (xs.length : Int)) / 4294967296 = ((8 * xs.length / 2 ^ (8 * (7 - 3)) % 256 : Nat) : Int) := by
                rw [show (2 : Nat) ^ (8 * (7 - 3)) = 4294967296 by decide]
                omega
              have hVl : 8 * xs.length / 2 ^ (8 * (7 - 3)) % 256 < 256 := Nat.mod_lt _ (by decide)
              generalize 8 * xs.length / 2 ^ (8 * (7 - 3)) % 256 = V at HV hv hVl
              obtain ⟨l2, hl2⟩ : ∃ l2, l2 = xs.length + 1 + (63 - (xs.length + 8) % 64) + 3 + 1 := ⟨_, rfl⟩
              have HGo : Hid (∀ v' w', Own w' WR.heap.size v' (pb xs 3 ++ [(V : Int)]) → (wr.alloc (.cells #[.int .u8 (V : Nat)] 5)).grownBy w' (Value.slice (some ⟨gm, 0, none⟩) l cm).ownBlock → ∃ g' cap', v' = .slice (some ⟨g', 0, none⟩) l2 cap' ∧ Hid (Own w' WR.heap.size (.slice (some ⟨g', 0, none⟩) l2 cap') (pb xs (3 + 1)) ∧ Below WR.heap.size WR w')) := hide (fun v' w' h1 h2 => by
                rw [HV.out]
                exact app_own HX.out.1 HX.out.2 h1 h2 l2 (by rw [← HV.out, pb_len, hl2]) (by omega))
              have HL2 : Hid (l2 = (pb xs (3 + 1)).length) := hide (by rw [pb_len, hl2])
              have HLp : Hid ((pb xs 3).length + 1 ≤ 140737488355328) := hide (by rw [pb_len]; omega)
              have hbs := HX.out.2.size
              have HOx := hide (Own.alloc HX.out.1 (.cells #[.int .u8 (V : Nat)] 5))
              have HOb := hide (one_byte wr V hVl)
              clear hl2
              go_wp2_with (at_builtin; refine wpList_append_rd _ rfl _ _ 22 rfl Try.underlying22 info5 WR.heap.size _ (pb xs 3) rfl HOx.out _ [(V : Int)] rfl HOb.out HLp.out (by simp; omega) ?_; intro v9 w9 hown9 hgrow9; obtain ⟨g9, cap9, rfl, HX9⟩ := HGo.out v9 w9 hown9 hgrow9; clear hown9 hgrow9)
              go_roundw
              case rel => exact ⟨3 + 1, l2, g9, cap9, by omega, by go_num, rfl, HL2, HX9⟩
              case measure => simp [intOf]
            · have HV := hide (pb_succ xs 4)
              have hv : (8 * (xs.length : Int)) / 16777216 = ((8 * xs.length / 2 ^ (8 * (7 - 4)) % 256 : Nat) : Int) := by
                rw [show (2 : Nat) ^ (8 * (7 - 4)) = 16777216 by decide]
                omega
              have hVl : 8 * xs.length / 2 ^ (8 * (7 - 4)) % 256 < 256 := Nat.mod_lt _ (by decide)
              generalize 8 * xs.length / 2 ^ (8 * (7 - 4)) % 256 = V at HV hv hVl
              obtain ⟨l2, hl2⟩ : ∃ l2, l2 = xs.length + 1 + (63 - (xs.length + 8) % 64) + 4 + 1 := ⟨_, rfl⟩
              have HGo : Hid (∀ v' w', Own w' WR.heap.size v' (pb xs 4 ++ [(V : Int)]) → (wr.alloc (.cells #[.int .u8 (V : Nat)] 5)).grownBy w' (Value.slice (some ⟨gm, 0, none⟩) l cm).ownBlock → ∃ g' cap', v' = .slice (some ⟨g', 0, none⟩) l2 cap' ∧ Hid (Own w' WR.heap.size (.slice (some ⟨g', 0, none⟩) l2 cap') (pb xs (4 + 1)) ∧ Below WR.heap.size WR w')) := hide (fun v' w' h1 h2 => by
                rw [HV.out]
                exact app_own HX.out.1 HX.out.2 h1 h2 l2 (by rw [← HV.out, pb_len, hl2]) (by omega))
              have HL2 : Hid (l2 = (pb xs (4 + 1)).length) := hide (by rw [pb_len, hl2])
              have HLp : Hid ((pb xs 4).length + 1 ≤ 140737488355328) := hide (by rw [pb_len]; omega)
              have hbs := HX.out.2.size
              have HOx := hide (Own.alloc HX.out.1 (.cells #[.int .u8 (V : Nat)] 5))
              have HOb := hide (one_byte wr V hVl)
              clear hl2
              go_wp2_with (at_builtin; refine wpList_append_rd _ rfl _ _ 22 rfl Try.underlying22 info5 WR.heap.size _ (pb xs 4) rfl HOx.out _ [(V : Int)] rfl HOb.out HLp.out (by simp; omega) ?_; intro v9 w9 hown9 hgrow9; obtain ⟨g9, cap9, rfl, HX9⟩ := HGo.out v9 w9 hown9 hgrow9; clear hown9 hgrow9)
              go_roundw
              case rel => exact ⟨4 + 1, l2, g9, cap9, by omega, by go_num, rfl, HL2, HX9⟩
              case measure => simp [intOf]
            · have HV := hide (pb_succ xs 5)
              have hv : (8 * (xs.length : Int)) / 65536 = ((8 * xs.length / 2 ^ (8 * (7 - 5)) % 256 : Nat) : Int) := by
                rw [show (2 : Nat) ^ (8 * (7 - 5)) = 65536 by decide]
                omega
              have hVl : 8 * xs.length / 2 ^ (8 * (7 - 5)) % 256 < 256 := Nat.mod_lt _ (by decide)
              generalize 8 * xs.length / 2 ^ (8 * (7 - 5)) % 256 = V at HV hv hVl
              obtain ⟨l2, hl2⟩ : ∃ l2, l2 = xs.length + 1 + (63 - (xs.length + 8) % 64) + 5 + 1 := ⟨_, rfl⟩
              have HGo : Hid (∀ v' w', Own w' WR.heap.size v' (pb xs 5 ++ [(V : Int)]) → (wr.alloc (.cells #[.int .u8 (V : Nat)] 5)).grownBy w' (Value.slice (some ⟨gm, 0, none⟩) l cm).ownBlock → ∃ g' cap', v' = .slice (some ⟨g', 0, none⟩) l2 cap' ∧ Hid (Own w' WR.heap.size (.slice (some ⟨g', 0, none⟩) l2 cap') (pb xs (5 + 1)) ∧ Below WR.heap.size WR w')) := hide (fun v' w' h1 h2 => by
                rw [HV.out]
                exact app_own HX.out.1 HX.out.2 h1 h2 l2 (by rw [← HV.out, pb_len, hl2]) (by omega))
              have HL2 : Hid (l2 = (pb xs (5 + 1)).length) := hide (by rw [pb_len, hl2])
              have HLp : Hid ((pb xs 5).length + 1 ≤ 140737488355328) := hide (by rw [pb_len]; omega)
              have hbs := HX.out.2.size
              have HOx := hide (Own.alloc HX.out.1 (.cells #[.int .u8 (V : Nat)] 5))
              have HOb := hide (one_byte wr V hVl)
              clear hl2
              go_wp2_with (at_builtin; refine wpList_append_rd _ rfl _ _ 22 rfl Try.underlying22 info5 WR.heap.size _ (pb xs 5) rfl HOx.out _ [(V : Int)] rfl HOb.out HLp.out (by simp; omega) ?_; intro v9 w9 hown9 hgrow9; obtain ⟨g9, cap9, rfl, HX9⟩ := HGo.out v9 w9 hown9 hgrow9; clear hown9 hgrow9)
              go_roundw
              case rel => exact ⟨5 + 1, l2, g9, cap9, by omega, by go_num, rfl, HL2, HX9⟩
              case measure => simp [intOf]
            · have HV := hide (pb_succ xs 6)
              have hv : (8 * (xs.length : Int)) / 256 % 256 = ((8 * xs.length / 2 ^ (8 * (7 - 6)) % 256 : Nat) : Int) := by
                rw [show (2 : Nat) ^ (8 * (7 - 6)) = 256 by decide]
                omega
              have hVl : 8 * xs.length / 2 ^ (8 * (7 - 6)) % 256 < 256 := Nat.mod_lt _ (by decide)
              generalize 8 * xs.length / 2 ^ (8 * (7 - 6)) % 256 = V at HV hv hVl
              obtain ⟨l2, hl2⟩ : ∃ l2, l2 = xs.length + 1 + (63 - (xs.length + 8) % 64) + 6 + 1 := ⟨_, rfl⟩
              have HGo : Hid (∀ v' w', Own w' WR.heap.size v' (pb xs 6 ++ [(V : Int)]) → (wr.alloc (.cells #[.int .u8 (V : Nat)] 5)).grownBy w' (Value.slice (some ⟨gm, 0, none⟩) l cm).ownBlock → ∃ g' cap', v' = .slice (some ⟨g', 0, none⟩) l2 cap' ∧ Hid (Own w' WR.heap.size (.slice (some ⟨g', 0, none⟩) l2 cap') (pb xs (6 + 1)) ∧ Below WR.heap.size WR w')) := hide (fun v' w' h1 h2 => by
                rw [HV.out]
                exact app_own HX.out.1 HX.out.2 h1 h2 l2 (by rw [← HV.out, pb_len, hl2]) (by omega))
              have HL2 : Hid (l2 = (pb xs (6 + 1)).length) := hide (by rw [pb_len, hl2])
              have HLp : Hid ((pb xs 6).length + 1 ≤ 140737488355328) := hide (by rw [pb_len]; omega)
              have hbs := HX.out.2.size
              have HOx := hide (Own.alloc HX.out.1 (.cells #[.int .u8 (V : Nat)] 5))
              have HOb := hide (one_byte wr V hVl)
              clear hl2
              go_wp2_with (at_builtin; refine wpList_append_rd _ rfl _ _ 22 rfl Try.underlying22 info5 WR.heap.size _ (pb xs 6) rfl HOx.out _ [(V : Int)] rfl HOb.out HLp.out (by simp; omega) ?_; intro v9 w9 hown9 hgrow9; obtain ⟨g9, cap9, rfl, HX9⟩ := HGo.out v9 w9 hown9 hgrow9; clear hown9 hgrow9)
              go_roundw
              case rel => exact ⟨6 + 1, l2, g9, cap9, by omega, by go_num, rfl, HL2, HX9⟩
              case measure => simp [intOf]
            · have HV := hide (pb_succ xs 7)
              have hv : (8 * (xs.length : Int)) % 256 = ((8 * xs.length / 2 ^ (8 * (7 - 7)) % 256 : Nat) : Int) := by
                rw [show (2 : Nat) ^ (8 * (7 - 7)) = 1 by decide]
                omega
              have hVl : 8 * xs.length / 2 ^ (8 * (7 - 7)) % 256 < 256 := Nat.mod_lt _ (by decide)
              generalize 8 * xs.length / 2 ^ (8 * (7 - 7)) % 256 = V at HV hv hVl
              obtain ⟨l2, hl2⟩ : ∃ l2, l2 = xs.length + 1 + (63 - (xs.length + 8) % 64) + 7 + 1 := ⟨_, rfl⟩
              have HGo : Hid (∀ v' w', Own w' WR.heap.size v' (pb xs 7 ++ [(V : Int)]) → (wr.alloc (.cells #[.int .u8 (V : Nat)] 5)).grownBy w' (Value.slice (some ⟨gm, 0, none⟩) l cm).ownBlock → ∃ g' cap', v' = .slice (some ⟨g', 0, none⟩) l2 cap' ∧ Hid (Own w' WR.heap.size (.slice (some ⟨g', 0, none⟩) l2 cap') (pb xs (7 + 1)) ∧ Below WR.heap.size WR w')) := hide (fun v' w' h1 h2 => by
                rw [HV.out]
                exact app_own HX.out.1 HX.out.2 h1 h2 l2 (by rw [← HV.out, pb_len, hl2]) (by omega))
              have HL2 : Hid (l2 = (pb xs (7 + 1)).length) := hide (by rw [pb_len, hl2])
              have HLp : Hid ((pb xs 7).length + 1 ≤ 140737488355328) := hide (by rw [pb_len]; omega)
              have hbs := HX.out.2.size
              have HOx := hide (Own.alloc HX.out.1 (.cells #[.int .u8 (V : Nat)] 5))
              have HOb := hide (one_byte wr V hVl)
              clear hl2
              go_wp2_with (at_builtin; refine wpList_append_rd _ rfl _ _ 22 rfl Try.underlying22 info5 WR.heap.size _ (pb xs 7) rfl HOx.out _ [(V : Int)] rfl HOb.out HLp.out (by simp; omega) ?_; intro v9 w9 hown9 hgrow9; obtain ⟨g9, cap9, rfl, HX9⟩ := HGo.out v9 w9 hown9 hgrow9; clear hown9 hgrow9)
              go_roundw
              case rel => exact ⟨7 + 1, l2, g9, cap9, by omega, by go_num, rfl, HL2, HX9⟩
              case measure => simp [intOf]
            · have e78 : (7 : Int) - ((8 : Nat) : Int) = -1 := by decide
              rw [e78]
              clear e78
              obtain ⟨g0, c0, e0, hcap0, hcapm, hgm, hgmb, hby, hcm⟩ := own_slice HX.out.1 (by rw [pb_len]; omega)
              simp only [Value.slice.injEq, Option.some.injEq, Addr.mk.injEq, and_true] at e0
              obtain ⟨rfl, hle, rfl⟩ := e0
              rw [pb_all] at hcap0 hby hcm hle
              clear HLj hj
              obtain ⟨K, hK, hK1, hK2⟩ := pad_length xs
              have hlK : l = 64 * K := hle.trans hK
              have hK3 : K ≤ 1100 := by omega
              rw [hK] at hcap0
              unfold maxLen at hcapm
              have HCm : Hid ((∀ x ∈ padN xs, 0 ≤ x ∧ x ≤ 255) ∧ (∀ i, i < (padN xs).length → wr.cell? ⟨gm, i, none⟩ = some (.int .u8 ((padN xs).getD i 0)))) := hide ⟨hby, hcm⟩
              have HKl := hide hK
              have HKd : Hid ((padN xs).length / 64 = K) := hide (by omega)
              have HBw := hide HX.out.2
              have hszw := HX.out.2.size
              obtain ⟨WP, hWP⟩ : ∃ W, W = wr := ⟨_, rfl⟩
              subst hWP
              clear hby hcm hle hK HX hgmb hK2
              subst hlK
              have HCk2 : Hid (∀ W, Below WP.heap.size WP W → ∀ i, i < 64 → W.cell? ⟨gk, i, none⟩ = some (.int .i64 ((ruleL.drop 8).getD i 0 : Nat))) := hide (fun W hW i hi => (hW.cell (show gk < WP.heap.size by omega)).trans ((HBw.out.cell hgk).trans (HCk.out i hi)))
              have HCm2 : Hid (∀ W, Below WP.heap.size WP W → ∀ i, i < (padN xs).length → W.cell? ⟨gm, 0 + i, none⟩ = some (.int .u8 ((padN xs).getD i 0))) := hide (fun W hW i hi => by rw [Nat.zero_add]; exact (hW.cell hgm).trans (HCm.out.2 i hi))
              have HS4 : Hid (∀ i, i < 8 → WP.cell? ⟨gh, i, none⟩ = some (.int .i64 ((foldB (ruleL.take 8) (padN xs) 0).getD i 0 : Nat))) := hide (fun i hi => (HBw.out.cell hgh).trans (HCh.out i hi))
              have hghP : gh < WP.heap.size := by omega
              clear HCk HCh
              go_wp2
              go_loopw [5, 10] (fun hv iv wx => ∃ (t g c : Nat), t ≤ K ∧ iv = .int .i64 (64 * (t : Int)) ∧ hv = .slice (some ⟨g, 0, none⟩) 8 c ∧ Hid (g < wx.heap.size ∧ (∀ i, i < 8 → wx.cell? ⟨g, i, none⟩ = some (.int .i64 ((foldB (ruleL.take 8) (padN xs) t).getD i 0 : Nat))) ∧ Below WP.heap.size WP wx)) (fun _ iv _ => 64 * K - (intOf iv).toNat)
              case atStart => exact ⟨0, gh, ch, by omega, rfl, rfl, hide ⟨hghP, HS4.out, Below.refl _ _⟩⟩
              case round =>
                clear HS4
                obtain ⟨t, g, c, ht, rfl, rfl, HR⟩ := hrel
                by_cases htK : t < K
                · have hsz := HR.out.2.2.size
                  have hbk := blk_cells (wr := wr) (pb := gm) (poff := 0) HCm.out.1 (HCm2.out wr HR.out.2.2) t (by have := HKl.out; omega)
                  obtain ⟨hb1, hb2, hb3⟩ := hbk
                  have HBc := hide (HBk'.out wr g gk gm (64 * t) c ck (cm - 64 * t) (foldB (ruleL.take 8) (padN xs) t) ((((padN xs).drop (64 * t)).take 64).map Int.toNat) (ruleL.drop 8) (foldB_length len_a _ t) (foldB_lt st_lt _ t) hb1 hb2 (by omega) (by unfold maxLen; omega) len_b ks_lt HR.out.1 (by omega) (by omega) HR.out.2.1 (HCk2.out wr HR.out.2.2) (fun i hi => by have h := hb3 i hi; rwa [Nat.zero_add] at h))
                  have HF : Hid (foldB (ruleL.take 8) (padN xs) (t + 1) = blkN (foldB (ruleL.take 8) (padN xs) t) ((((padN xs).drop (64 * t)).take 64).map Int.toNat) (ruleL.drop 8)) := hide rfl
                  rw [← HF.out] at HBc
                  clear hb1 hb2 hb3 HF
                  go_wp2_with fail
                  refine HBc.out.mono ?_
                  rintro e w9 ⟨g9, c9, rfl, R9, B9⟩
                  have HR9 : Hid (g9 < w9.heap.size ∧ (∀ i, i < 8 → w9.cell? ⟨g9, i, none⟩ = some (.int .i64 ((foldB (ruleL.take 8) (padN xs) (t + 1)).getD i 0 : Nat))) ∧ Below WP.heap.size WP w9) := by
                    obtain ⟨_, hcs0⟩ := R9.cells
                    obtain ⟨g', hg', hcs⟩ := hcs0 (by omega)
                    simp only [Option.some.injEq, Addr.mk.injEq, and_true] at hg'
                    subst hg'
                    exact hide ⟨cell_lt (hcs 0 (by omega)), hcs, HR.out.2.2.trans (B9.mono hsz)⟩
                  clear R9 B9 HBc HR
                  go_wp2
                  go_roundw
                  case rel => exact ⟨t + 1, g9, c9, by omega, by go_num, rfl, HR9⟩
                  case measure => simp [intOf]; omega
                · obtain rfl : t = K := by omega
                  have HSh : ShaIs xs (foldB (ruleL.take 8) (padN xs) t) := ⟨by unfold shaN; rw [HKd.out, hxs_all]⟩
                  have lst := foldB_lt st_lt (padN xs) t
                  generalize foldB (ruleL.take 8) (padN xs) t = st at HR HSh lst
                  have HBz : Hid (Below w.heap.size w wr) := hide ((HBr.out.trans (HBw.out.mono (by omega))).trans (HR.out.2.2.mono (by omega)))
                  have HCz := hide HR.out.2.1
                  clear HR HCk2 HCm2 HCm HKl HKd HBw
                  go_wp2
                  go_loop [11, 12] (fun s iv => ∃ j : Nat, j ≤ 8 ∧ iv = .int .i64 j ∧ s = .string (strOfNums (hxs st j))) (fun _ iv => 8 - (intOf iv).toNat)
                  case atStart => exact ⟨0, by omega, rfl, rfl⟩
                  case round =>
                    obtain ⟨j, hj, rfl, rfl⟩ := hrel
                    by_cases h8 : j < 8
                    · have cj := HCz.out j h8
                      have lj := getD_lt (by decide) lst j
                      have HX1 : Hid (hxs st (j + 1) = hxs st j ++ hx (st.getD j 0) 8) := hide rfl
                      have hs1 : (strOfNums (hxs st j)).size = 8 * j := by rw [strOfNums_size, hxs_len]
                      generalize st.getD j 0 = V at cj lj HX1
                      have HA := hide (str_app (hxs st j) (hx V 8))
                      have hs2 : (strOfNums (hx V 8)).size = 8 := by rw [strOfNums_size]; simp [hx]
                      have HH := hide (hex_any wr V lj)
                      generalize hxs st j = xs0 at HX1 HA hs1 ⊢
                      go_wp2_with fail
                      refine HH.out.mono ?_
                      rintro e w9 ⟨rfl, rfl⟩
                      generalize hx V 8 = ys0 at HX1 HA hs2 ⊢
                      clear HH
                      go_wp2
                      go_round
                      case rel => exact ⟨j + 1, by omega, by go_num, by rw [HX1.out, ← HA.out]⟩
                      case measure => simp [intOf]; omega
                    · obtain rfl : j = 8 := by omega
                      go_wp2
                      go_ret
                      exact ⟨by rw [HSh.out]; rfl, HBz.out⟩

set_option maxHeartbeats 2000000 in
theorem specSha_any (HBk : BlkE) (w : World) (ao : Option Addr) (cap : Nat) (xs : List Int) (hl : xs.length ≤ 65536) (h : RdA w (.slice ao xs.length cap) xs) :
    Calls Try.prog 7 #[.slice ao xs.length cap] w fun e w' => e = .returned (.string (strOfNums (shaN xs))) ∧ Below w.heap.size w w' := by
  have hl' : ¬ (65536 : Int) < xs.length := by omega
  have HL := hide (lsha_any HBk w ao cap xs hl h)
  clear h HBk
  go_enter Try.func7, Try.ntmps7
  go_wp2_with fail
  refine HL.out.mono ?_
  rintro e w1 ⟨rfl, B1⟩
  have HB1 := hide B1
  clear HL B1
  go_wp2
  go_ret
  exact ⟨rfl, HB1.out⟩

set_option maxHeartbeats 2000000 in
theorem specSha_long (w : World) (ao : Option Addr) (cap : Nat) (xs : List Int) (hl : 65536 < xs.length) (h : RdA w (.slice ao xs.length cap) xs) :
    Calls Try.prog 7 #[.slice ao xs.length cap] w fun e w' => e = .returned (.string ⟨#[]⟩) ∧ Below w.heap.size w w' := by
  have hl' : (65536 : Int) < xs.length := by omega
  clear h
  go_enter Try.func7, Try.ntmps7
  go_wp2
  go_ret
  exact ⟨rfl, Below.refl _ _⟩
end Go.Proofs.Ytkkildgdeagpeah.ssha

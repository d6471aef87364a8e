/- Contract of the function that is fed frames in pieces. -/
import Derived.Test.YtipcdioolafkpaaMany
namespace Go.Proofs.Ytipcdioolafkpaa.feeds
open Go.ChangeShapes Go.WideShapes Go.ChangeAt Go.RowKit
open Go.Proofs.Ytipcdioolafkpaa.bytes Go.Proofs.Ytipcdioolafkpaa.pile Go.Proofs.Ytipcdioolafkpaa.get Go.Proofs.Ytipcdioolafkpaa.dec Go.Proofs.Ytipcdioolafkpaa.take
open Go.Proofs.Ytipcdioolafkpaa.put Go.Proofs.Ytipcdioolafkpaa.crcs Go.Proofs.Ytipcdioolafkpaa.join Go.Proofs.Ytipcdioolafkpaa.frames Go.Proofs.Ytipcdioolafkpaa.reader Go.Proofs.Ytipcdioolafkpaa.one Go.Proofs.Ytipcdioolafkpaa.many
set_option linter.unusedVariables false

/-- Bytes that are held, and pieces that come behind them: the payloads, the bytes that are left, a code. -/
def feedF : List Int → List (List Int) → List (List Int) × List Int × Int
  | held, [] => ([], held, 0)
  | held, c :: cs => if 65536 < held.length + c.length then ([], [], 7) else
      if (allF ((held ++ c).length + 1) (held ++ c)).2.2 ≠ 0 then ([], [], (allF ((held ++ c).length + 1) (held ++ c)).2.2) else
        if (feedF ((held ++ c).drop (allF ((held ++ c).length + 1) (held ++ c)).2.1) cs).2.2 = 0 then
          ((allF ((held ++ c).length + 1) (held ++ c)).1 ++ (feedF ((held ++ c).drop (allF ((held ++ c).length + 1) (held ++ c)).2.1) cs).1, (feedF ((held ++ c).drop (allF ((held ++ c).length + 1) (held ++ c)).2.1) cs).2.1, 0)
        else ([], [], (feedF ((held ++ c).drop (allF ((held ++ c).length + 1) (held ++ c)).2.1) cs).2.2)
/-- What Feed answers. -/
def feedA (rest : List Int) (cs : List (List Int)) : List (List Int) × List Int × Int := if 65536 < rest.length ∨ 4096 < cs.length then ([], [], 2) else feedF rest cs

/-- What feedF says of what is to come, said of the whole. -/
def FThrough (R : List (List Int) × List Int × Int) (ps : List (List Int)) (held : List Int) (cs : List (List Int)) : Prop :=
  R = if (feedF held cs).2.2 = 0 then (ps ++ (feedF held cs).1, (feedF held cs).2.1, 0) else ([], [], (feedF held cs).2.2)
theorem fthrough_start (rest : List Int) (cs : List (List Int)) (hz : (feedF rest cs).2.2 = 0 ∨ (feedF rest cs).1 = [] ∧ (feedF rest cs).2.1 = []) : FThrough (feedF rest cs) [] rest cs := by
  unfold FThrough
  by_cases h : (feedF rest cs).2.2 = 0
  · rw [if_pos h]
    refine Prod.ext rfl (Prod.ext rfl ?_)
    simpa using h
  · rw [if_neg h]
    rcases hz with h' | h'
    · exact absurd h' h
    · refine Prod.ext h'.1 (Prod.ext h'.2 rfl)
theorem feedF_zero : ∀ (cs : List (List Int)) (held : List Int), (feedF held cs).2.2 = 0 ∨ (feedF held cs).1 = [] ∧ (feedF held cs).2.1 = []
  | [], held => .inl rfl
  | c :: cs, held => by
    rw [feedF]
    split
    · exact .inr ⟨rfl, rfl⟩
    · split
      · exact .inr ⟨rfl, rfl⟩
      · split
        · exact .inl rfl
        · exact .inr ⟨rfl, rfl⟩
theorem fthrough_many {R : List (List Int) × List Int × Int} {ps : List (List Int)} {held c : List Int} {cs : List (List Int)} (h : FThrough R ps held (c :: cs)) (hl : 65536 < held.length + c.length) : R = ([], [], 7) := by
  unfold FThrough at h
  rw [feedF, if_pos hl] at h
  exact h
theorem fthrough_fault {R : List (List Int) × List Int × Int} {ps : List (List Int)} {held c : List Int} {cs : List (List Int)} (h : FThrough R ps held (c :: cs)) (hl : ¬ 65536 < held.length + c.length) (hc : (allF ((held ++ c).length + 1) (held ++ c)).2.2 ≠ 0) :
    R = ([], [], (allF ((held ++ c).length + 1) (held ++ c)).2.2) := by
  unfold FThrough at h
  rw [feedF, if_neg hl, if_pos hc] at h
  simp only at h
  rw [if_neg hc] at h
  exact h
theorem fthrough_step {R : List (List Int) × List Int × Int} {ps : List (List Int)} {held c : List Int} {cs : List (List Int)} (h : FThrough R ps held (c :: cs)) (hl : ¬ 65536 < held.length + c.length) (hc : (allF ((held ++ c).length + 1) (held ++ c)).2.2 = 0) :
    FThrough R (ps ++ (allF ((held ++ c).length + 1) (held ++ c)).1) ((held ++ c).drop (allF ((held ++ c).length + 1) (held ++ c)).2.1) cs := by
  have hf : feedF held (c :: cs) = if (feedF ((held ++ c).drop (allF ((held ++ c).length + 1) (held ++ c)).2.1) cs).2.2 = 0 then
          ((allF ((held ++ c).length + 1) (held ++ c)).1 ++ (feedF ((held ++ c).drop (allF ((held ++ c).length + 1) (held ++ c)).2.1) cs).1, (feedF ((held ++ c).drop (allF ((held ++ c).length + 1) (held ++ c)).2.1) cs).2.1, 0)
        else ([], [], (feedF ((held ++ c).drop (allF ((held ++ c).length + 1) (held ++ c)).2.1) cs).2.2) := by
    rw [feedF, if_neg hl, if_neg (fun e => e hc)]
  unfold FThrough at h ⊢
  rw [hf] at h
  clear hf hc hl
  generalize allF ((held ++ c).length + 1) (held ++ c) = r at h ⊢
  generalize feedF ((held ++ c).drop r.2.1) cs = s at h ⊢
  obtain ⟨s1, s2, s3⟩ := s
  simp only at h ⊢
  by_cases hz : s3 = 0
  · subst hz
    simpa [List.append_assoc] using h
  · simpa [hz] using h
theorem fthrough_end {R : List (List Int) × List Int × Int} {ps : List (List Int)} {held : List Int} (h : FThrough R ps held []) : R = (ps, held, 0) := by
  unfold FThrough at h
  rw [h]
  simp [feedF]

theorem allF_len : ∀ (f : Nat) (l : List Int), (allF f l).1.length ≤ l.length
  | 0, l => by simp [allF]
  | f + 1, l => by
    by_cases h : (frameAt l).1 = -1
    · rw [allF_more h]
      have h2 := frameAt_size h
      have h3 := allF_len f (l.drop (frameAt l).2.2)
      simp only [List.length_cons, List.length_drop] at h3 ⊢
      omega
    · rw [allF_end h]; simp

/-- The reader is given other bytes. -/
theorem RS.setData {w : World} {base d : Nat} {ao : Option Addr} {cap : Nat} {xs : List Int} {at_ : Nat} {pv : Value} {us : List Value} {xss : List (List Int)} (h : RS w base d ao cap xs at_ pv us xss) {K : Nat} {o : Option Addr} {c : Nat} {ys : List Int}
    (ho : Own w K (.slice o ys.length c) ys) (hK : ∀ k, pv.ownBlock = some k → k < K) (hl : ys.length ≤ 65536) :
    RS ((w.setCell ⟨d, 0, none⟩ (.slice o ys.length c)).setCell ⟨d, 1, none⟩ (.int .i64 0)) base d o c ys 0 pv us xss := by
  have hd5 : (Value.slice o ys.length c).ownBlock ≠ some d := own_other ho.2 h.blk (by decide)
  have hpd : pv.ownBlock ≠ some d := own_other h.pay h.blk (by decide)
  have hb1 : (w.setCell ⟨d, 0, none⟩ (.slice o ys.length c)).heap[d]? = some (.cells #[.slice o ys.length c, .int .i64 at_, pv] 68 (0, 0)) := by
    have := heap_setCell_same w d 0 _ 68 (.slice o ys.length c) h.blk
    simpa using this
  have hb2 := heap_setCell_same _ d 1 _ 68 (.int .i64 0) hb1
  have hO2 := own_setCell (own_setCell ho (a := ⟨d, 0, none⟩) hd5 (.slice o ys.length c)) (a := ⟨d, 1, none⟩) hd5 (.int .i64 0)
  refine ⟨by simpa using hb2, Own.rdA hO2, fun hp x hx => ?_, ?_, ⟨h.each.1, fun i hi => ?_, h.each.2.2⟩, by omega, hl, h.low⟩
  · obtain ⟨_, h1, ⟨e, h2⟩ | ⟨g, cap', cur, e, hb, hg, _⟩⟩ := ho
    · simp only [Value.slice.injEq] at e
      rw [e.1] at hx
      simp at hx
    · simp only [Value.slice.injEq] at e
      rw [e.1] at hx
      simp only [Option.some.injEq] at hx
      subst hx
      refine ⟨fun e2 => ?_, fun e2 => ?_⟩
      · apply hd5
        rw [e.1]
        simp only at e2
        simp [Value.ownBlock, e2]
      · have := hK _ e2
        simp only at this
        omega
  · exact ownsRow_setCell_other (ownsRow_setCell_other h.pay (a := ⟨d, 0, none⟩) hpd _) (a := ⟨d, 1, none⟩) hpd _
  · have hne : (us.getD i (.slice none 0 0)).ownBlock ≠ some d := own_other (h.each.2.1 i hi).2 h.blk (by decide)
    exact own_setCell (own_setCell (h.each.2.1 i hi) (a := ⟨d, 0, none⟩) hne _) (a := ⟨d, 1, none⟩) hne _

theorem join_two (wx : World) (B : Nat) (o1 o2 : Option Addr) (n1 n2 c1 c2 : Nat) (ys zs : List Int) (hB : wx.heap[B]? = some (.cells #[.slice o1 n1 c1, .slice o2 n2 c2] 22 (0, 0))) (h1 : RdA wx (.slice o1 n1 c1) ys) (h2 : RdA wx (.slice o2 n2 c2) zs) (hl : ys.length + zs.length ≤ 65536) :
    Calls Try.prog 40 #[.slice (some ⟨B, 0, none⟩) 2 2] wx fun e w' => ∃ o c, e = .returned (.slice o (ys ++ zs).length c) ∧ Own w' wx.heap.size (.slice o (ys ++ zs).length c) (ys ++ zs) ∧ Below wx.heap.size wx w' := by
  have h := join_own wx (.slice (some ⟨B, 0, none⟩) 2 2) [.slice o1 n1 c1, .slice o2 n2 c2] [ys, zs] ⟨_, _, rfl, Nat.le_refl _, by simp [maxLen], fun _ => ⟨B, 0, rfl, fun i hi => by
      have : i = 0 ∨ i = 1 := by simp at hi; omega
      rcases this with rfl | rfl <;> simp [World.cell?, hB]⟩⟩ ⟨rfl, fun i hi => by
      have : i = 0 ∨ i = 1 := by simp at hi; omega
      rcases this with rfl | rfl
      · exact h1
      · exact h2⟩ (by simp; omega)
  refine h.mono ?_
  rintro e w' ⟨v, rfl, h3, h4⟩
  have e1 : [ys, zs].flatten = ys ++ zs := by simp
  rw [e1] at h3
  obtain ⟨o, c, e2, _⟩ := h3.rd
  subst e2
  exact ⟨o, c, rfl, h3, h4⟩

set_option maxHeartbeats 2000000 in
theorem implFeed (w : World) (b p : Value) (rest : List Int) (vs : List Value) (cs : List (List Int)) (hb : RdA w b rest) (hp : RdS w p vs) (ht : Texts w vs cs) (hcl : ∀ i, i < vs.length → (cs.getD i []).length ≤ 281474976710656) :
    Calls Try.prog 17 #[b, p] w fun e w' => ∃ v us r, e = .returned (.tuple #[v, r, .int .i64 (feedA rest cs).2.2]) ∧ w'.ownsRow w.heap.size 22 1 v us.length us ∧ Pile w' w.heap.size us (feedA rest cs).1 ∧ Own w' w.heap.size r (feedA rest cs).2.1 ∧ (∀ i, i < us.length → ∀ k, (us.getD i (.slice none 0 0)).ownBlock = some k → r.ownBlock ≠ some k) ∧ Below w.heap.size w w' := by
  have HB : Hid (RdA w b rest ∧ RdS w p vs ∧ Texts w vs cs) := ⟨hb, hp, ht⟩
  have hlv := ht.1
  obtain ⟨⟨ao, cap, rfl, ha1, ha2, hx, h4⟩, hnil⟩ := hb
  obtain ⟨bo, cb, rfl, hb1, hb2, hb3⟩ := hp
  unfold maxLen at ha2 hb2
  have HX : Hid (0 < rest.length → ∃ b off, ao = some ⟨b, off, none⟩ ∧ ∀ i, i < rest.length → w.cell? ⟨b, off + i, none⟩ = some (.int .u8 (rest.getD i 0))) := h4
  have HLV : Hid (vs.length = cs.length) := hlv
  have HCL : Hid (∀ i, i < vs.length → (cs.getD i []).length ≤ 281474976710656) := hcl
  clear hcl
  clear h4 hx hnil ht
  by_cases hl : 65536 < rest.length
  · have hu : feedA rest cs = ([], [], 2) := by rw [feedA, if_pos (.inl hl)]
    rw [hu]
    have hl' : (65536 : Int) < rest.length := by omega
    go_enter Try.func17, Try.ntmps17
    go_wp2
    go_ret3
    exact ⟨_, [], _, rfl, World.ownsRow_nil _ _ _ _, Pile.nil _ _, ⟨by simp, World.ownsRow_nil _ _ _ _⟩, fun i hi => by simp at hi, Below.refl _ _⟩
  · have hl' : ¬ (65536 : Int) < rest.length := by omega
    by_cases hlc : 4096 < vs.length
    · have hu : feedA rest cs = ([], [], 2) := by rw [feedA, if_pos (.inr (by omega))]
      rw [hu]
      have hlc' : (4096 : Int) < vs.length := by omega
      go_enter Try.func17, Try.ntmps17
      go_wp2
      go_ret3
      exact ⟨_, [], _, rfl, World.ownsRow_nil _ _ _ _, Pile.nil _ _, ⟨by simp, World.ownsRow_nil _ _ _ _⟩, fun i hi => by simp at hi, Below.refl _ _⟩
    · have hlc' : ¬ (4096 : Int) < vs.length := by omega
      have hu : feedA rest cs = feedF rest cs := by rw [feedA, if_neg (by omega)]
      rw [hu]
      have HF0 : Hid (FThrough (feedF rest cs) [] rest cs) := fthrough_start rest cs (feedF_zero cs rest)
      clear hu hlv
      generalize feedF rest cs = R at HF0 ⊢
      have hba : Below w.heap.size w (w.alloc (.cells #[.slice ao rest.length cap, .int .i64 0, .slice none 0 0] 68)) := (Below.refl _ _).alloc (Nat.le_refl _) _
      have HR0 : Hid (RS (w.alloc (.cells #[.slice ao rest.length cap, .int .i64 0, .slice none 0 0] 68)) w.heap.size w.heap.size ao cap rest 0 (.slice none 0 0) [] []) := by
        refine hide ⟨by exact heap_alloc_new w _, HB.out.1.below hba (Nat.le_refl _), fun hp x hx => ?_, World.ownsRow_nil _ _ _ _, Pile.nil _ _, by omega, by omega, Nat.le_refl _⟩
        obtain ⟨b, off, e, hc⟩ := HX.out hp
        rw [e] at hx
        simp only [Option.some.injEq] at hx
        subst hx
        have := cell_lt (hc 0 hp)
        refine ⟨by simp only at this ⊢; omega, by simp [Value.ownBlock]⟩
      have HBA : Hid (Below w.heap.size w (w.alloc (.cells #[.slice ao rest.length cap, .int .i64 0, .slice none 0 0] 68))) := hba
      clear hba HX
      go_enter Try.func17, Try.ntmps17
      go_wp2
      go_loopw [24] (fun i wr => ∃ (k : Nat) (ao1 : Option Addr) (cap1 : Nat) (xs : List Int) (at_ : Nat) (pv : Value) (us : List Value) (ps : List (List Int)), k ≤ vs.length ∧ i = .int .i64 k ∧
          Hid (RS wr w.heap.size w.heap.size ao1 cap1 xs at_ pv us ps ∧ Below w.heap.size w wr ∧ us.length ≤ k * 65536 ∧ FThrough R ps (xs.drop at_) (cs.drop k))) (fun i _ => vs.length - (intOf i).toNat)
      case atStart => exact ⟨0, ao, cap, rest, 0, .slice none 0 0, [], [], by omega, rfl, hide ⟨HR0.out, HBA.out, by simp, by simpa using HF0.out⟩⟩
      case round =>
        clear HR0 HBA HF0
        obtain ⟨k, ao1, cap1, xs, at_, pv, us, ps, hk, rfl, HR⟩ := hrel
        have hRlen := HR.out.1.len
        have hRle := HR.out.1.le
        by_cases hlt : k < vs.length
        · obtain ⟨bb, boff, rfl, hcb⟩ := hb3 (by omega)
          have hck := hcb k hlt
          have hc : wr.cell? ⟨bb, boff + k, none⟩ = some (vs.getD k (.slice none 0 0)) := (HR.out.2.1.cell (cell_lt hck)).trans hck
          have hch := (HB.out.2.2.2 k hlt).below HR.out.2.1 (Nat.le_refl _)
          obtain ⟨⟨co, cc, hcv, hc1, hc2, hcx, _⟩, _⟩ := hch
          have HCh : Hid (∀ wx, Below w.heap.size w wx → RdA wx (.slice co (cs.getD k []).length cc) (cs.getD k [])) := by
            rw [← hcv]
            exact fun wx hb => (HB.out.2.2.2 k hlt).below hb (Nat.le_refl _)
          rw [hcv] at hc
          have hdc : cs.drop k = cs.getD k [] :: cs.drop (k + 1) := by
            have hkc : k < cs.length := by rw [← HLV.out]; exact hlt
            rw [List.drop_eq_getElem_cons hkc]; simp [List.getD_eq_getElem?_getD, hkc]
          have HFT : Hid (FThrough R ps (xs.drop at_) (cs.getD k [] :: cs.drop (k + 1))) := by
            rw [← hdc]
            exact HR.out.2.2.2
          clear hcb hck hcv hcx hdc
          unfold maxLen at hc2
          have hch48 := HCL.out k hlt
          generalize cs.getD k [] = ch at hc hc1 HCh HFT hch48
          have c0 := HR.out.1.c0
          have c1 := HR.out.1.c1
          go_wp2_with fail
          refine (left_any _ w.heap.size ao1 xs.length cap1 (at_ : Int) (by omega) (by omega) (by unfold maxLen; omega) (by exact c0) (by exact c1)).mono ?_
          rintro e w1 ⟨rfl, m1, rfl⟩
          by_cases hmany : 65536 < xs.length - at_ + ch.length
          · have hm2 : (65536 : Int) < (xs.length : Int) - (at_ : Int) + (ch.length : Int) := by omega
            have HRe : Hid (R = ([], [], 7)) := fthrough_many HFT.out (by rw [List.length_drop]; omega)
            have HBF : Hid (Below w.heap.size w (wr.drewN m1)) := below_drewN HR.out.2.1 m1
            go_wp2
            go_ret3
            rw [HRe.out]
            exact ⟨_, [], _, rfl, World.ownsRow_nil _ _ _ _, Pile.nil _ _, ⟨by simp, World.ownsRow_nil _ _ _ _⟩, fun i hi => by simp at hi, HBF.out⟩
          · have hm2 : ¬ (65536 : Int) < (xs.length : Int) - (at_ : Int) + (ch.length : Int) := by omega
            have R1 := HR.out.1.below (below_same wr m1)
            go_wp2_with fail
            refine (left_any _ w.heap.size ao1 xs.length cap1 (at_ : Int) (by omega) (by omega) (by unfold maxLen; omega) (by exact R1.c0) (by exact R1.c1)).mono ?_
            rintro e w2 ⟨rfl, m2, rfl⟩
            have R2 := HR.out.1.below (below_same wr (m1 + m2))
            obtain ⟨L, hL⟩ : ∃ L : Nat, (xs.length : Int) - (at_ : Int) = (L : Int) := ⟨xs.length - at_, by omega⟩
            have hLl : at_ + L = xs.length := by omega
            rw [hL]
            obtain ⟨_, hcap1, hcap2⟩ := le_cap R2.data.1
            clear R1
            go_wp2_with fail
            refine (take_any _ w.heap.size ao1 xs.length cap1 at_ L (by omega) hcap1 hcap2 hRlen R2.c0 R2.c1 (R2.fz 1)).mono ?_
            rintro e w3 ⟨rfl, m3, hw3⟩
            have R3 : RS w3 w.heap.size w.heap.size ao1 cap1 xs (at_ + L) pv us ps := by
              rw [hw3]
              exact (R2.below (below_same _ m3)).setAt (at_ + L) (by omega)
            have B3 : Below w.heap.size wr w3 := by
              rw [hw3]
              exact (below_drewN (below_drewN (Below.refl w.heap.size wr) (m1 + m2)) m3).setCell (p := ⟨w.heap.size, 1, none⟩) (Nat.le_refl _) _
            have BW3 : Below w.heap.size w w3 := HR.out.2.1.trans B3
            have hchunk := HCh.out w3 BW3
            clear hw3 R2 c0 c1
            have hpiece := cut_rd (at_ := at_) (n := L) R3.data (by omega)
            rw [show (xs.drop at_).take L = xs.drop at_ from List.take_of_length_le (by simp; omega)] at hpiece
            obtain ⟨o3, c3, hcut⟩ := cutV_form ao1 cap1 at_ L
            rw [hcut] at hpiece ⊢
            go_wp2_with fail
            have hsz3 : (w3.alloc (.cells #[.slice o3 L c3, .slice co ch.length cc] 22)).heap.size = w3.heap.size + 1 := by simp
            have hba3 : Below w3.heap.size w3 (w3.alloc (.cells #[.slice o3 L c3, .slice co ch.length cc] 22)) := (Below.refl _ _).alloc (Nat.le_refl _) _
            have hdlen : (xs.drop at_).length = L := by simp; omega
            refine (join_two _ w3.heap.size o3 co L ch.length c3 cc (xs.drop at_) ch (by exact heap_alloc_new w3 _) (hpiece.below hba3 (Nat.le_refl _)) (hchunk.below hba3 (Nat.le_refl _)) (by omega)).mono ?_
            rintro e w4 ⟨o4, c4, rfl, HO4, hb4⟩
            rw [hsz3] at HO4 hb4
            have b34 : Below w3.heap.size w3 w4 := hba3.trans (hb4.mono (by omega))
            have R4 := R3.below b34
            have s3 := BW3.size
            have BW4 : Below w.heap.size w w4 := BW3.trans (b34.mono s3)
            have hyl : (xs.drop at_ ++ ch).length ≤ 65536 := by rw [List.length_append]; omega
            have HR5 : Hid (RS ((w4.setCell ⟨w.heap.size, 0, none⟩ (.slice o4 (xs.drop at_ ++ ch).length c4)).setCell ⟨w.heap.size, 1, none⟩ (.int .i64 0)) w.heap.size w.heap.size o4 c4 (xs.drop at_ ++ ch) 0 pv us ps) :=
              RS.setData R4 HO4 (fun g hg => by have := (World.ownsRow.lt R3.pay g hg).2; omega) hyl
            have HB5 : Hid (Below w.heap.size w ((w4.setCell ⟨w.heap.size, 0, none⟩ (.slice o4 (xs.drop at_ ++ ch).length c4)).setCell ⟨w.heap.size, 1, none⟩ (.int .i64 0))) :=
              (BW4.setCell (p := ⟨w.heap.size, 0, none⟩) (Nat.le_refl _) _).setCell (p := ⟨w.heap.size, 1, none⟩) (Nat.le_refl _) _
            have hc40 := R4.c0
            have hc41 := R4.c1
            have hf40 := R4.fz 0
            have hf41 := R4.fz 1
            have HYL : Hid ((xs.drop at_ ++ ch).length ≤ 65536) := hyl
            have HDL : Hid ((xs.drop at_).length = L) := hdlen
            clear R4 R3 HO4 hb4 b34 hba3 hsz3 BW3 BW4 B3 hchunk hpiece hyl hdlen
            generalize hY : xs.drop at_ ++ ch = Y at HR5 HB5 HYL ⊢
            have HY : Hid (xs.drop at_ ++ ch = Y) := hY
            clear hY
            go_wp2_with fail
            have hul := HR.out.2.2.1
            have hFr := frames_any _ w.heap.size w.heap.size o4 c4 Y 0 pv us ps HR5.out (by have := HYL.out; omega)
            rw [List.drop_zero, Nat.zero_add] at hFr
            have hll : ¬ 65536 < (xs.drop at_).length + ch.length := by rw [HDL.out]; omega
            have HFault : Hid ((allF (Y.length + 1) Y).2.2 ≠ 0 → R = ([], [], (allF (Y.length + 1) Y).2.2)) := fun hc => by
              rw [← HY.out] at hc ⊢
              exact fthrough_fault HFT.out hll hc
            have HStep : Hid ((allF (Y.length + 1) Y).2.2 = 0 → FThrough R (ps ++ (allF (Y.length + 1) Y).1) (Y.drop (allF (Y.length + 1) Y).2.1) (cs.drop (k + 1))) := fun hc => by
              rw [← HY.out] at hc ⊢
              exact fthrough_step HFT.out hll hc
            have HAl : Hid ((allF (Y.length + 1) Y).1.length ≤ 65536) := by
              have h1 := allF_len (Y.length + 1) Y
              have h2 := HYL.out
              unfold Hid
              omega
            refine hFr.mono ?_
            clear hFr HR5 hll HFT
            rintro e w6 ⟨rfl, pv6, us6, R6, hb6⟩
            have BW6 : Below w.heap.size w w6 := HB5.out.trans hb6
            generalize allF (Y.length + 1) Y = r at HFault HStep HAl R6 ⊢
            obtain ⟨r1, r2, r3⟩ := r
            simp only at HFault HStep HAl R6 ⊢
            rcases Bool.eq_false_or_eq_true (r3 != 0) with hr | hr
            · have HRe : Hid (R = ([], [], r3)) := HFault.out (by simpa using hr)
              have HBF : Hid (Below w.heap.size w w6) := BW6
              clear R6 hb6 BW6 HFault HStep HAl HB5 hc40 hc41 hf40 hf41
              go_wp2
              go_ret3
              rw [HRe.out]
              exact ⟨_, [], _, rfl, World.ownsRow_nil _ _ _ _, Pile.nil _ _, ⟨by simp, World.ownsRow_nil _ _ _ _⟩, fun i hi => by simp at hi, HBF.out⟩
            · have hr0 : r3 = 0 := by simpa using hr
              subst hr0
              have HRel : Hid (RS w6 w.heap.size w.heap.size o4 c4 Y r2 pv6 us6 (ps ++ r1) ∧ Below w.heap.size w w6 ∧ us6.length ≤ (k + 1) * 65536 ∧ FThrough R (ps ++ r1) (Y.drop r2) (cs.drop (k + 1))) := by
                refine hide ⟨R6, BW6, ?_, HStep.out rfl⟩
                have h1 := R6.each.1
                have h2 := HR.out.1.each.1
                have h3 := HAl.out
                rw [List.length_append] at h1
                omega
              clear R6 hb6 BW6 HFault HStep HAl HB5 hc40 hc41 hf40 hf41
              go_wp2
              go_roundw
              case rel => exact ⟨k + 1, o4, c4, Y, r2, pv6, us6, ps ++ r1, by omega, by go_num, HRel⟩
              case measure => simp [intOf]; omega
        · have HRe : Hid (R = (ps, xs.drop at_, 0)) := by
            have := HR.out.2.2.2
            have hdn : cs.drop k = [] := List.drop_eq_nil_of_le (by rw [← HLV.out]; omega)
            rw [hdn] at this
            exact fthrough_end this
          have c0 := HR.out.1.c0
          have c1 := HR.out.1.c1
          have c2 := HR.out.1.c2
          obtain ⟨L, hL⟩ : ∃ L : Nat, (xs.length : Int) - (at_ : Int) = (L : Int) := ⟨xs.length - at_, by omega⟩
          obtain ⟨_, hcap1, hcap2⟩ := le_cap HR.out.1.data.1
          have HLeft : Hid (Calls Try.prog 43 #[.pointer (some ⟨w.heap.size, 0, none⟩)] wr.drew fun e w' => e = .returned (.int .i64 (L : Int)) ∧ ∃ m', w' = wr.drewN m') := by
            refine (left_any wr.drew w.heap.size ao1 xs.length cap1 (at_ : Int) (by omega) (by omega) (by unfold maxLen; omega) (by exact c0) (by exact c1)).mono ?_
            rintro e w' ⟨rfl, m', rfl⟩
            exact ⟨by rw [hL], 1 + m', by rw [World.drewN_drew]⟩
          obtain ⟨o3, c3, hcut⟩ := cutV_form ao1 cap1 at_ L
          have HTake : Hid (∀ m, Calls Try.prog 44 #[.pointer (some ⟨w.heap.size, 0, none⟩), .int .i64 (L : Int)] (wr.drewN m) fun e w' => e = .returned (.slice o3 L c3) ∧ Hid (RS w' w.heap.size w.heap.size ao1 cap1 xs (at_ + L) pv us ps ∧ Below w.heap.size w w') ∧ w'.cell? ⟨w.heap.size, 2, none⟩ = some pv ∧ w.heap.size < w'.heap.size) := fun m => by
            have R2 := HR.out.1.below (below_same wr m)
            refine (take_any (wr.drewN m) w.heap.size ao1 xs.length cap1 at_ L (by omega) hcap1 hcap2 hRlen R2.c0 R2.c1 (R2.fz 1)).mono ?_
            rintro e w3 ⟨rfl, m3, hw3⟩
            have R3 : RS w3 w.heap.size w.heap.size ao1 cap1 xs (at_ + L) pv us ps := by
              rw [hw3]
              exact (R2.below (below_same _ m3)).setAt (at_ + L) (by omega)
            have B3 : Below w.heap.size w w3 := by
              rw [hw3]
              exact (below_drewN (below_drewN HR.out.2.1 m) m3).setCell (p := ⟨w.heap.size, 1, none⟩) (Nat.le_refl _) _
            exact ⟨by rw [hcut], hide ⟨R3, B3⟩, R3.c2, R3.lt⟩
          have hdl5 : (xs.drop at_).length = L := by simp; omega
          have HJoin : Hid (∀ w3, Hid (RS w3 w.heap.size w.heap.size ao1 cap1 xs (at_ + L) pv us ps ∧ Below w.heap.size w w3) → Calls Try.prog 40 #[.slice (some ⟨w3.heap.size, 0, none⟩) 1 1] (w3.alloc (.cells #[.slice o3 L c3] 22)) fun e w' => ∃ o5 c5, e = .returned (.slice o5 L c5) ∧
              Hid (w'.ownsRow w.heap.size 22 1 pv us.length us ∧ Pile w' w.heap.size us ps ∧ Own w' w.heap.size (.slice o5 L c5) (xs.drop at_) ∧ (∀ i, i < us.length → ∀ g, (us.getD i (.slice none 0 0)).ownBlock = some g → (Value.slice o5 L c5).ownBlock ≠ some g) ∧ Below w.heap.size w w') ∧ w'.cell? ⟨w.heap.size, 2, none⟩ = some pv) := fun w3 h3 => by
            have R3 := h3.out.1
            have hba : Below w3.heap.size w3 (w3.alloc (.cells #[.slice o3 L c3] 22)) := (Below.refl _ _).alloc (Nat.le_refl _) _
            have hpiece := cut_rd (at_ := at_) (n := L) R3.data (by omega)
            rw [hcut, show (xs.drop at_).take L = xs.drop at_ from List.take_of_length_le (by simp; omega)] at hpiece
            have hsz : (w3.alloc (.cells #[.slice o3 L c3] 22)).heap.size = w3.heap.size + 1 := by simp
            refine (join_one _ w3.heap.size o3 L c3 (xs.drop at_) (by exact heap_alloc_new w3 _) (hpiece.below hba (Nat.le_refl _)) (by simp; omega)).mono ?_
            rintro e w' ⟨v, rfl, HO, hb⟩
            rw [hsz] at HO hb
            have b3 : Below w3.heap.size w3 w' := hba.trans (hb.mono (by omega))
            have R5 := R3.below b3
            have s3 := h3.out.2.size
            obtain ⟨o5, c5, e5, _⟩ := HO.rd
            rw [hdl5] at e5
            subst e5
            refine ⟨o5, c5, rfl, hide ⟨R5.pay, R5.each, HO.mono (by omega), fun i hi g hg hg2 => ?_, h3.out.2.trans (b3.mono s3)⟩, R5.c2⟩
            have h1 := ((R3.each.2.1 i hi).lt g hg).2
            have h2 := (HO.lt g hg2).1
            omega
          clear hcut hL hdl5
          go_wp2
          go_region_law (first | (go_simp; go_at_call 43; refine HLeft.out.mono ?_; rintro e w1 ⟨rfl, m1, rfl⟩) | (go_simp; go_at_call 44; refine (HTake.out _).mono ?_; rintro e w3 ⟨rfl, H3, h3c, h3l⟩) | (go_simp; go_at_call 40; refine (HJoin.out _ H3).mono ?_; rintro e w5 ⟨o5, c5, rfl, H5, h5c⟩))
          all_goals
            go_wp2
            go_ret3
            rw [HRe.out]
            exact ⟨pv, us, .slice o5 L c5, rfl, H5.out.1, H5.out.2.1, H5.out.2.2.1, H5.out.2.2.2.1, H5.out.2.2.2.2⟩
end Go.Proofs.Ytipcdioolafkpaa.feeds

/- Contract of the specification's own Feed. -/
import Derived.Test.YtipcdioolafkpafSpecs
import Derived.Test.YtipcdioolafkpafFeeds
import Derived.Test.YtipcdioolafkpafSizes
namespace Go.Proofs.Ytipcdioolafkpaf.specfeed
open Go.ChangeShapes Go.WideShapes Go.ChangeAt Go.RowKit
open Go.Proofs.Ytipcdioolafkpaf.bytes Go.Proofs.Ytipcdioolafkpaf.pile Go.Proofs.Ytipcdioolafkpaf.get Go.Proofs.Ytipcdioolafkpaf.dec Go.Proofs.Ytipcdioolafkpaf.take Go.Proofs.Ytipcdioolafkpaf.reader Go.Proofs.Ytipcdioolafkpaf.one Go.Proofs.Ytipcdioolafkpaf.many Go.Proofs.Ytipcdioolafkpaf.lists Go.Proofs.Ytipcdioolafkpaf.specs Go.Proofs.Ytipcdioolafkpaf.feeds Go.Proofs.Ytipcdioolafkpaf.sizes
set_option linter.unusedVariables false

theorem cutV_eq (ao : Option Addr) (cap a n : Nat) : cutV ao cap a n = .slice (if cap = a then ao else ao.map fun x => x.add a) n (cap - a) := by
  unfold cutV
  split
  · rename_i h
    rw [h, Nat.sub_self]
  · rfl

theorem allF_place : ∀ (f : Nat) (l : List Int), (allF f l).2.1 ≤ l.length
  | 0, l => by simp [allF]
  | f + 1, l => by
    by_cases h : (frameAt l).1 = -1
    · rw [allF_more h]
      have h2 := frameAt_size h
      have h3 := allF_place f (l.drop (frameAt l).2.2)
      simp only [List.length_drop] at h3 ⊢
      omega
    · rw [allF_end h]; simp

/-- 'append(out, more...)': out and more rows of slices of the call's own. -/
theorem wpList_append_rows {P : Program} (w : World) {ops : Array Oper} {rest : List Oper} {o : Oper} {a : Act} {Q : Exit → Act → World → Prop} (hgd : o.guard = none) (s x : Operand) (t : TypeId)
    (ho : o.op = .call { callee := .builtin .append, args := #[s, x], argTypes := #[t, t] }) (ht : P.underlying t = some (.slice 22))
    (hi : (P.info? 22).map (fun i => (i.zero, i.size, i.bytes)) = some (some (.slice none 0 0), 1, 24))
    (base : Nat) (v : Value) (us : List Value) (hs : a.eval s = v) (hown : w.ownsRow base 22 1 v us.length us) (b2 : Nat) (u : Value) (vs : List Value) (hx : a.eval x = u) (hr : w.ownsRow b2 22 1 u vs.length vs) (h1 : ∀ y ∈ vs, y.oneCell' = true)
    (hlen : us.length + vs.length ≤ 1099511627776) (hbase : base ≤ w.heap.size)
    (h : ∀ v' w', w'.ownsRow base 22 1 v' (us ++ vs).length (us ++ vs) → w.grownBy w' v.ownBlock → wpList P ops Q rest (a.put o.dst v') w') : wpList P ops Q (o :: rest) a w := by
  obtain ⟨i0, hi1, hz0, hz1, hz2⟩ := info_parts hi
  have hr' := hr
  obtain ⟨hl, ⟨rfl, h2⟩ | ⟨g, cap, cur, rfl, hb, hg, hnc, hcm, hcs, htake⟩⟩ := hr
  · have hvs : vs = [] := List.length_eq_zero_iff.1 h2
    subst hvs
    refine wpList_append_own_none hgd s x t ho base 22 i0 1 ht hi1 v us.length _ hs hown hx ?_
    exact h v w (by simpa using hown) (World.grownBy.refl _ _)
  · refine wpList_append_own w hgd s x t ho base 22 i0 (.slice none 0 0) 1 24 ht hi1 hz0 hz1 hz2 rfl (by decide) v us.length _ hs hown ⟨g, 0, none⟩ vs.length cap vs hx (by simp) ?_ h1 (by unfold maxLen; omega) (by omega) hbase ?_
    · intro j y hy
      have hj : j < vs.length := (List.getElem?_eq_some_iff.1 hy).1
      rw [add_at, Nat.zero_add, World.ownsRow.cellAt hr' j (by omega)]
      exact hy
    · intro v' w' hown' hgrow _
      refine h v' w' ?_ hgrow
      rw [List.length_append]
      exact hown'

theorem pile_one {w : World} {base : Nat} {us : List Value} {xss : List (List Int)} (h : Pile w base us xss) : ∀ y ∈ us, y.oneCell' = true := by
  intro y hy
  obtain ⟨i, hi, rfl⟩ := List.getElem_of_mem hy
  have := (h.2.1 i hi).rd
  obtain ⟨ao, c, e, _⟩ := this
  have e2 : us.getD i (.slice none 0 0) = us[i] := by simp [List.getD_eq_getElem?_getD, hi]
  rw [e2] at e
  rw [e]
  rfl

theorem pile_app {w : World} {base K : Nat} {us vs : List Value} {xss yss : List (List Int)} (h : Pile w base us xss) (g : Pile w K vs yss) (hK : base ≤ K) (hus : ∀ i, i < us.length → ∀ k, (us.getD i (.slice none 0 0)).ownBlock = some k → k < K) : Pile w base (us ++ vs) (xss ++ yss) := by
  have hl : ∀ i, i < us.length → (us ++ vs).getD i (.slice none 0 0) = us.getD i (.slice none 0 0) := fun i hi => by simp [List.getD_eq_getElem?_getD, List.getElem?_append_left hi]
  have hr : ∀ i, us.length ≤ i → (us ++ vs).getD i (.slice none 0 0) = vs.getD (i - us.length) (.slice none 0 0) := fun i hi => by simp [List.getD_eq_getElem?_getD, List.getElem?_append_right hi]
  have hlx : ∀ i, i < us.length → (xss ++ yss).getD i [] = xss.getD i [] := fun i hi => by simp [List.getD_eq_getElem?_getD, List.getElem?_append_left (h.1 ▸ hi)]
  have hrx : ∀ i, us.length ≤ i → (xss ++ yss).getD i [] = yss.getD (i - us.length) [] := fun i hi => by simp [List.getD_eq_getElem?_getD, List.getElem?_append_right (h.1 ▸ hi), h.1]
  refine ⟨by rw [List.length_append, List.length_append, h.1, g.1], fun i hi => ?_, fun i j hi hj hij k hk hk2 => ?_⟩
  · rw [List.length_append] at hi
    by_cases e : i < us.length
    · rw [hl i e, hlx i e]; exact h.2.1 i e
    · rw [hr i (by omega), hrx i (by omega)]; exact (g.2.1 _ (by omega)).mono hK
  · rw [List.length_append] at hi hj
    by_cases ei : i < us.length <;> by_cases ej : j < us.length
    · rw [hl i ei] at hk; rw [hl j ej] at hk2; exact h.2.2 i j ei ej hij k hk hk2
    · rw [hl i ei] at hk; rw [hr j (by omega)] at hk2
      have h1 := hus i ei k hk
      have h2 := ((g.2.1 (j - us.length) (by omega)).lt k hk2).1
      omega
    · rw [hr i (by omega)] at hk; rw [hl j ej] at hk2
      have h1 := hus j ej k hk2
      have h2 := ((g.2.1 (i - us.length) (by omega)).lt k hk).1
      omega
    · rw [hr i (by omega)] at hk; rw [hr j (by omega)] at hk2
      exact g.2.2 (i - us.length) (j - us.length) (by omega) (by omega) (by omega) k hk hk2

/-- What the specification's Feed leaves. -/
def SpecOf (w : World) (R : List (List Int) × List Int × Int) (v r : Value) (w' : World) : Prop := ∃ us, Ans w' w.heap.size v us R.1 ∧ Own w' w.heap.size r R.2.1 ∧ Below w.heap.size w w'

/-- The payloads so far and the bytes that are held, each in memory of its own. -/
structure FI (w0 wr : World) (v8 v9 : Value) (us : List Value) (ps : List (List Int)) (held : List Int) : Prop where
  ans : Ans wr w0.heap.size v8 us ps
  held : Own wr w0.heap.size v9 held
  apart : ∀ i, i < us.length → ∀ k, (us.getD i (.slice none 0 0)).ownBlock = some k → v9.ownBlock ≠ some k
  bel : Below w0.heap.size w0 wr

theorem own_lit (w : World) {base : Nat} (h : base ≤ w.heap.size) : Own (w.alloc (.cells #[] 5)) base (.slice (some ⟨w.heap.size, 0, none⟩) 0 0) [] := ⟨by simp, World.ownsRow_lit _ #[] 0 h (by simp [maxLen]) (by simp)⟩
theorem row_lit (w : World) {base : Nat} (h : base ≤ w.heap.size) : (w.alloc (.cells #[] 22)).ownsRow base 22 1 (.slice (some ⟨w.heap.size, 0, none⟩) 0 0) 0 [] := World.ownsRow_lit _ #[] 0 h (by simp [maxLen]) (by simp)

/-- It ends with a code: nothing, in memory of its own. -/
theorem ends_none {w wr : World} {c : Int} (K : Nat) (hb : Below (w.alloc (.cells #[] 22)).heap.size (w.alloc (.cells #[] 22)) wr) (hK : wr.heap.size = K) : SpecOf w ([], [], c) (.slice (some ⟨w.heap.size, 0, none⟩) 0 0) (.slice (some ⟨K, 0, none⟩) 0 0) (wr.alloc (.cells #[] 5)) := by
  subst hK
  have hs := hb.size
  have hs' : (w.alloc (.cells #[] 22)).heap.size = w.heap.size + 1 := by simp
  have b2 : Below (w.alloc (.cells #[] 22)).heap.size (w.alloc (.cells #[] 22)) (wr.alloc (.cells #[] 5)) := hb.alloc (by omega) _
  refine ⟨[], ⟨row_below (row_lit w (Nat.le_refl _)) b2 (Nat.le_refl _), Pile.nil _ _⟩, own_lit wr (by omega), ?_⟩
  exact ((Below.refl _ _).alloc (Nat.le_refl _) _).trans (b2.mono (by omega))

/-- One piece more is held. -/
theorem FI.more {w0 wr w2 : World} {v8 v9 : Value} {us : List Value} {ps : List (List Int)} {held : List Int} (h : FI w0 wr v8 v9 us ps held) (hg : wr.grownBy w2 v9.ownBlock) :
    Ans w2 w0.heap.size v8 us ps ∧ Below w0.heap.size w0 w2 := by
  refine ⟨⟨World.ownsRow.kept h.ans.row hg (row_ne' h.held h.ans.row), h.ans.pile.1, fun i hi => own_kept (h.ans.pile.2.1 i hi) hg ?_, h.ans.pile.2.2⟩, h.bel.grown hg (by have := h.bel.size; omega) (fun k hk => (h.held.lt k hk).1)⟩
  cases hv : (us.getD i (.slice none 0 0)).ownBlock with
  | none => exact .inl rfl
  | some k => exact .inr fun e => h.apart i hi k hv e.symm

/-- The payloads of a piece behind those that are there. -/
theorem Ans.app {w3 w4 : World} {B K : Nat} {v8 v8' vm : Value} {us usm : List Value} {ps more : List (List Int)} (h : Ans w3 B v8 us ps) (hm : Pile w3 K usm more) (hK : B ≤ K) (hus : ∀ i, i < us.length → ∀ k, (us.getD i (.slice none 0 0)).ownBlock = some k → k < K)
    (hown : w4.ownsRow B 22 1 v8' (us ++ usm).length (us ++ usm)) (hg : w3.grownBy w4 v8.ownBlock) : Ans w4 B v8' (us ++ usm) (ps ++ more) := by
  have h1 := pile_app h.pile hm hK hus
  exact ⟨hown, h1.1, fun i hi => own_kept (h1.2.1 i hi) hg (row_ne (h1.2.1 i hi) h.row), h1.2.2⟩

set_option maxHeartbeats 2000000 in
theorem specFeed (w : World) (b p : Value) (rest : List Int) (vs : List Value) (cs : List (List Int)) (hb : RdA w b rest) (hp : RdS w p vs) (ht : Texts w vs cs) (hcl : ∀ i, i < vs.length → (cs.getD i []).length ≤ 281474976710656) :
    Calls Try.prog 23 #[b, p] w fun e w' => ∃ v r, e = .returned (.tuple #[v, r, .int .i64 (feedA rest cs).2.2]) ∧ SpecOf w (feedA rest cs) v r w' := by
  have HB : Hid (RdA w b rest ∧ RdS w p vs ∧ Texts w vs cs) := ⟨hb, hp, ht⟩
  have hlv := ht.1
  obtain ⟨⟨ao, cap, rfl, ha1, ha2, hx, h4⟩, hnil⟩ := hb
  obtain ⟨bo, cb, rfl, hb1, hb2, hb3⟩ := hp
  unfold maxLen at ha2 hb2
  have HLV : Hid (vs.length = cs.length) := hlv
  have HCL : Hid (∀ i, i < vs.length → (cs.getD i []).length ≤ 281474976710656) := hcl
  clear hcl
  clear h4 hx hnil ht
  by_cases hl : 65536 < rest.length
  · have hu : feedA rest cs = ([], [], 2) := by rw [feedA, if_pos (.inl hl)]
    rw [hu]
    have hl' : (65536 : Int) < rest.length := by omega
    go_enter Try.func23, Try.ntmps23
    go_wp2
    go_ret3
    exact ⟨.slice (some ⟨w.heap.size, 0, none⟩) 0 0, .slice (some ⟨w.heap.size + 1, 0, none⟩) 0 0, rfl, ends_none (w.heap.size + 1) (Below.refl _ _) (by simp)⟩
  · have hl' : ¬ (65536 : Int) < rest.length := by omega
    by_cases hlc : 4096 < vs.length
    · have hu : feedA rest cs = ([], [], 2) := by rw [feedA, if_pos (.inr (by omega))]
      rw [hu]
      have hlc' : (4096 : Int) < vs.length := by omega
      go_enter Try.func23, Try.ntmps23
      go_wp2
      go_ret3
      exact ⟨.slice (some ⟨w.heap.size, 0, none⟩) 0 0, .slice (some ⟨w.heap.size + 1, 0, none⟩) 0 0, rfl, ends_none (w.heap.size + 1) (Below.refl _ _) (by simp)⟩
    · have hlc' : ¬ (4096 : Int) < vs.length := by omega
      have hu : feedA rest cs = feedF rest cs := by rw [feedA, if_neg (by omega)]
      rw [hu]
      have HF0 : Hid (FThrough (feedF rest cs) [] rest cs) := fthrough_start rest cs (feedF_zero cs rest)
      clear hu hlv
      generalize feedF rest cs = R at HF0 ⊢
      have HW3 : Hid (Below w.heap.size w (((w.alloc (.cells #[] 22)).alloc (.cells #[] 22)).alloc (.cells #[] 5))) := (((Below.refl w.heap.size w).alloc (Nat.le_refl _) _).alloc (by simp) _).alloc (by simp; omega) _
      have HW3' : Hid (Below (w.alloc (.cells #[] 22)).heap.size (w.alloc (.cells #[] 22)) (((w.alloc (.cells #[] 22)).alloc (.cells #[] 22)).alloc (.cells #[] 5))) := ((Below.refl _ _).alloc (Nat.le_refl _) _).alloc (by simp) _
      have HE0 : Hid (Own (((w.alloc (.cells #[] 22)).alloc (.cells #[] 22)).alloc (.cells #[] 5)) (w.alloc (.cells #[] 22)).heap.size (.slice (some ⟨w.heap.size + 2, 0, none⟩) 0 0) []) := by
        have := own_lit ((w.alloc (.cells #[] 22)).alloc (.cells #[] 22)) (base := (w.alloc (.cells #[] 22)).heap.size) (by simp)
        rwa [show ((w.alloc (.cells #[] 22)).alloc (.cells #[] 22)).heap.size = w.heap.size + 2 by simp] at this
      have HR0 : Hid ((((w.alloc (.cells #[] 22)).alloc (.cells #[] 22)).alloc (.cells #[] 5)).ownsRow (w.alloc (.cells #[] 22)).heap.size 22 1 (.slice (some ⟨w.heap.size + 1, 0, none⟩) 0 0) 0 []) := by
        have := row_below (row_lit (w.alloc (.cells #[] 22)) (Nat.le_refl _)) ((Below.refl ((w.alloc (.cells #[] 22)).alloc (.cells #[] 22)).heap.size _).alloc (Nat.le_refl _) (.cells #[] 5)) (Nat.le_refl _)
        rwa [show (w.alloc (.cells #[] 22)).heap.size = w.heap.size + 1 by simp] at this ⊢
      have HS3 : Hid ((w.alloc (.cells #[] 22)).heap.size ≤ (((w.alloc (.cells #[] 22)).alloc (.cells #[] 22)).alloc (.cells #[] 5)).heap.size) := HW3'.out.size
      have HSz0 : Hid ((w.alloc (.cells #[] 22)).heap.size = w.heap.size + 1) := by unfold Hid; simp
      have HBw : Hid (Below w.heap.size w (w.alloc (.cells #[] 22))) := (Below.refl _ _).alloc (Nat.le_refl _) _
      go_enter Try.func23, Try.ntmps23
      go_wp2_with (at_builtin; refine wpList_append_rd _ rfl _ _ 22 rfl Try.underlying22 info5 _ _ [] rfl HE0.out _ rest rfl (HB.out.1.below HW3.out (Nat.le_refl _)) (by simp only [List.length_nil]; omega) HS3.out ?_)
      intro v1 w1 hO1 hg1
      have HI0 : Hid (FI (w.alloc (.cells #[] 22)) w1 (.slice (some ⟨w.heap.size + 1, 0, none⟩) 0 0) v1 [] [] rest) := by
        refine hide ⟨⟨World.ownsRow.kept HR0.out hg1 (row_ne' HE0.out HR0.out), Pile.nil _ _⟩, by simpa using hO1, fun i hi => by simp at hi, HW3'.out.grown hg1 HS3.out (fun k hk => (HE0.out.lt k hk).1)⟩
      clear hO1 hg1 HE0 HR0 HW3 HW3' HS3
      generalize hW0 : w.alloc (.cells #[] 22) = w0 at HI0 HSz0 HBw
      have HWE : Hid (w.alloc (.cells #[] 22) = w0) := hW0
      clear hW0
      go_wp2
      go_loopw [8, 9, 10] (fun v8 v9 i wr => ∃ (k : Nat) (us : List Value) (ps : List (List Int)) (held : List Int), k ≤ vs.length ∧ i = .int .i64 k ∧ held.length ≤ 65536 ∧ Hid (FI w0 wr v8 v9 us ps held ∧ us.length ≤ k * 65536 ∧ FThrough R ps held (cs.drop k))) (fun _ _ i _ => vs.length - (intOf i).toNat)
      case atStart => exact ⟨0, [], [], rest, by omega, rfl, by omega, hide ⟨HI0.out, by simp, by simpa using HF0.out⟩⟩
      case round =>
        clear HI0 HF0
        obtain ⟨k, us, ps, held, hk, rfl, hheld, HR⟩ := hrel
        have BWr : Below w.heap.size w wr := HBw.out.trans (HR.out.1.bel.mono (by have := HSz0.out; omega))
        have HBWr : Hid (Below w.heap.size w wr) := BWr
        obtain ⟨ho, hc, hv9, hh1, hh2, _⟩ := HR.out.1.held.rd
        subst hv9
        unfold maxLen at hh2
        by_cases hlt : k < vs.length
        · obtain ⟨bb, boff, rfl, hcb⟩ := hb3 (by omega)
          have hck := hcb k hlt
          have hcc : wr.cell? ⟨bb, boff + k, none⟩ = some (vs.getD k (.slice none 0 0)) := (BWr.cell (cell_lt hck)).trans hck
          have hch := (HB.out.2.2.2 k hlt).below BWr (Nat.le_refl _)
          obtain ⟨⟨co, c2, hcv, hc1, hc2, hcx, _⟩, _⟩ := hch
          have HCh : Hid (RdA wr (.slice co (cs.getD k []).length c2) (cs.getD k [])) := by
            rw [← hcv]
            exact (HB.out.2.2.2 k hlt).below BWr (Nat.le_refl _)
          rw [hcv] at hcc
          have hdc : cs.drop k = cs.getD k [] :: cs.drop (k + 1) := by
            have hkc : k < cs.length := by rw [← HLV.out]; exact hlt
            rw [List.drop_eq_getElem_cons hkc]; simp [List.getD_eq_getElem?_getD, hkc]
          have HFT : Hid (FThrough R ps held (cs.getD k [] :: cs.drop (k + 1))) := by
            rw [← hdc]
            exact HR.out.2.2
          clear hcb hck hcv hcx hdc BWr
          unfold maxLen at hc2
          have hch48 := HCL.out k hlt
          generalize cs.getD k [] = ch at hcc hc1 HCh HFT hch48
          have hs0 := HR.out.1.bel.size
          by_cases hmany : 65536 < held.length + ch.length
          · have hm2 : (65536 : Int) < (held.length : Int) + (ch.length : Int) := by omega
            have HRe : Hid (R = ([], [], 7)) := fthrough_many HFT.out hmany
            have HEnd : Hid (SpecOf w ([], [], 7) (.slice (some ⟨w.heap.size, 0, none⟩) 0 0) (.slice (some ⟨wr.heap.size, 0, none⟩) 0 0) (wr.alloc (.cells #[] 5))) := ends_none wr.heap.size (by rw [HWE.out]; exact HR.out.1.bel) rfl
            go_wp2
            go_ret3
            rw [HRe.out]
            exact ⟨_, _, rfl, HEnd.out⟩
          · have hm2 : ¬ (65536 : Int) < (held.length : Int) + (ch.length : Int) := by omega
            go_wp2_with (at_builtin; refine wpList_append_rd _ rfl _ _ 22 rfl Try.underlying22 info5 _ _ held rfl HR.out.1.held _ ch rfl HCh.out (by omega) hs0 ?_)
            intro v2 w2 hO2 hg2
            have hFm := HR.out.1.more hg2
            have HFm : Hid (Ans w2 w0.heap.size u8 us ps ∧ Below w0.heap.size w0 w2) := hFm
            have hyl : (held ++ ch).length ≤ 65536 := by rw [List.length_append]; omega
            have HO2 : Hid (Own w2 w0.heap.size v2 (held ++ ch)) := hO2
            have HFault : Hid ((allF ((held ++ ch).length + 1) (held ++ ch)).2.2 ≠ 0 → R = ([], [], (allF ((held ++ ch).length + 1) (held ++ ch)).2.2)) := fun h => fthrough_fault HFT.out hmany h
            have HStep : Hid ((allF ((held ++ ch).length + 1) (held ++ ch)).2.2 = 0 → FThrough R (ps ++ (allF ((held ++ ch).length + 1) (held ++ ch)).1) ((held ++ ch).drop (allF ((held ++ ch).length + 1) (held ++ ch)).2.1) (cs.drop (k + 1))) := fun h => fthrough_step HFT.out hmany h
            have hAl : (allF ((held ++ ch).length + 1) (held ++ ch)).1.length ≤ 65536 := by have := allF_len ((held ++ ch).length + 1) (held ++ ch); omega
            have hPl := allF_place ((held ++ ch).length + 1) (held ++ ch)
            clear hFm hO2 hg2 hm2
            generalize held ++ ch = Y at hyl HO2 HFault HStep hAl hPl
            obtain ⟨yo, yc, hv2, hy1, hy2, _⟩ := HO2.out.rd
            subst hv2
            unfold maxLen at hy2
            go_wp2_with fail
            refine (l01All_any w2 _ Y (Own.rdA HO2.out) hyl).mono ?_
            rintro e w3 ⟨vm, usm, rfl, hrm, hpm, b3⟩
            have s3 := b3.size
            have s2 := HFm.out.2.size
            have HA3 : Hid (Ans w3 w0.heap.size u8 us ps ∧ Own w3 w0.heap.size (.slice yo Y.length yc) Y ∧ Below w0.heap.size w0 w3) := ⟨HFm.out.1.below b3 (Nat.le_refl _), HO2.out.below b3 (Nat.le_refl _), HFm.out.2.trans (b3.mono s2)⟩
            have HUS : Hid (∀ i, i < us.length → ∀ k, (us.getD i (.slice none 0 0)).ownBlock = some k → k < w2.heap.size) := fun i hi k hk => ((HFm.out.1.pile.2.1 i hi).lt k hk).2
            have HM3 : Hid (w3.ownsRow w2.heap.size 22 1 vm usm.length usm ∧ Pile w3 w2.heap.size usm (allF (Y.length + 1) Y).1) := ⟨hrm, hpm⟩
            have hul := HR.out.2.1
            clear hrm hpm b3 HFm HO2 HR HCh
            generalize allF (Y.length + 1) Y = r at HFault HStep hAl hPl HM3 ⊢
            obtain ⟨r1, r2, r3⟩ := r
            simp only at HFault HStep hAl hPl HM3 ⊢
            rcases Bool.eq_false_or_eq_true (r3 != 0) with hr | hr
            · have HRe : Hid (R = ([], [], r3)) := HFault.out (by simpa using hr)
              have HEnd : Hid (SpecOf w ([], [], r3) (.slice (some ⟨w.heap.size, 0, none⟩) 0 0) (.slice (some ⟨w3.heap.size, 0, none⟩) 0 0) (w3.alloc (.cells #[] 5))) := ends_none w3.heap.size (by rw [HWE.out]; exact HA3.out.2.2) rfl
              clear HA3 HM3
              go_wp2
              go_ret3
              rw [HRe.out]
              exact ⟨_, _, rfl, HEnd.out⟩
            · have hr0 : r3 = 0 := by simpa using hr
              subst hr0
              have hml : usm.length ≤ 65536 := by rw [HM3.out.2.1]; exact hAl
              go_wp2_with (at_builtin; refine wpList_append_rows _ rfl _ _ 30 rfl Try.underlying30 info22' _ _ us rfl HA3.out.1.row _ _ usm rfl HM3.out.1 (pile_one HM3.out.2) (by omega) (by omega) ?_)
              intro v4 w4 hO4 hg4
              have hA4 := Ans.app (vm := vm) HA3.out.1 HM3.out.2 s2 HUS.out (by rw [List.length_append]; exact hO4) hg4
              have hY4 : Own w4 w0.heap.size (.slice yo Y.length yc) Y := own_kept HA3.out.2.1 hg4 (row_ne HA3.out.2.1 HA3.out.1.row)
              have hB4 : Below w0.heap.size w0 w4 := HA3.out.2.2.grown hg4 (by omega) (fun k hk => (World.ownsRow.lt HA3.out.1.row k hk).1)
              have s4 := hB4.size
              have hba : Below w4.heap.size w4 (w4.alloc (.cells #[] 5)) := (Below.refl _ _).alloc (Nat.le_refl _) _
              have HP5 : Hid (RdA (w4.alloc (.cells #[] 5)) (.slice (if yc = r2 then yo else yo.map fun x => x.add r2) (Y.length - r2) (yc - r2)) (Y.drop r2)) := by
                have h1 := cut_rd (at_ := r2) (n := Y.length - r2) (Own.rdA (hY4.below hba (Nat.le_refl _))) (by omega)
                rwa [List.take_of_length_le (by rw [List.length_drop]; omega), cutV_eq] at h1
              have HO5 : Hid (Own (w4.alloc (.cells #[] 5)) w4.heap.size (.slice (some ⟨w4.heap.size, 0, none⟩) 0 0) []) := own_lit w4 (Nat.le_refl _)
              have H4 : Hid (Ans w4 w0.heap.size v4 (us ++ usm) (ps ++ r1) ∧ Below w0.heap.size w0 w4) := ⟨hA4, hB4⟩
              have hj1 : (r2 : Int) ≤ Y.length := by omega
              have hj2 : (r2 : Int) ≤ yc := by omega
              clear hA4 hY4 hB4 hO4 hg4 HA3 HM3
              go_wp2_with (at_builtin; refine wpList_append_rd _ rfl _ _ 22 rfl Try.underlying22 info5 _ _ [] rfl HO5.out _ (Y.drop r2) rfl HP5.out (by rw [List.length_drop]; simp only [List.length_nil]; omega) (by simp) ?_)
              all_goals
                intro v6 w6 hO6 hg6
                have HI6 : Hid (FI w0 w6 v4 v6 (us ++ usm) (ps ++ r1) (Y.drop r2)) := by
                  have b6 : Below w4.heap.size w4 w6 := hba.grown hg6 (by simp) (fun k hk => (HO5.out.lt k hk).1)
                  refine hide ⟨H4.out.1.below b6 (Nat.le_refl _), (by simpa using hO6 : Own w6 w4.heap.size v6 (Y.drop r2)).mono s4, fun i hi k hk hk2 => ?_, H4.out.2.trans (b6.mono s4)⟩
                  have h1 := ((H4.out.1.pile.2.1 i hi).lt k hk).2
                  have h2 := (hO6.lt k hk2).1
                  omega
                have HF6 : Hid (FThrough R (ps ++ r1) (Y.drop r2) (cs.drop (k + 1))) := HStep.out (by first | rfl | trivial)
                clear hO6 hg6 HP5 HO5 H4 hba HStep HFault
                try generalize (if yc = r2 then yo else yo.map fun x => x.add r2) = dead
                go_wp2
                go_roundw
                case rel => exact ⟨k + 1, us ++ usm, ps ++ r1, Y.drop r2, by omega, by go_num, by rw [List.length_drop]; omega, hide ⟨HI6.out, by rw [List.length_append]; omega, HF6.out⟩⟩
                case measure => simp [intOf]; omega
        · have HRe : Hid (R = (ps, held, 0)) := by
            have := HR.out.2.2
            have hdn : cs.drop k = [] := List.drop_eq_nil_of_le (by rw [← HLV.out]; omega)
            rw [hdn] at this
            exact fthrough_end this
          have HEnd : Hid (SpecOf w (ps, held, 0) u8 (.slice ho held.length hc) wr) := by
            have hs := HSz0.out
            exact hide ⟨us, ⟨row_mono HR.out.1.ans.row (by omega), HR.out.1.ans.pile.mono (by omega)⟩, HR.out.1.held.mono (by omega), HBWr.out⟩
          go_wp2
          go_ret3
          rw [HRe.out]
          exact ⟨_, _, rfl, HEnd.out⟩
end Go.Proofs.Ytipcdioolafkpaf.specfeed

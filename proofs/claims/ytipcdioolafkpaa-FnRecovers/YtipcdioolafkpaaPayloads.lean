/- Contracts of the draws of bytes and of payloads. -/
import Derived.Test.YtipcdioolafkpaaDraws
namespace Go.Proofs.Ytipcdioolafkpaa.payloads
open Go.ChangeShapes Go.WideShapes Go.ChangeAt Go.RowKit
open Go.Proofs.Ytipcdioolafkpaa.bytes Go.Proofs.Ytipcdioolafkpaa.put Go.Proofs.Ytipcdioolafkpaa.pile Go.Proofs.Ytipcdioolafkpaa.join Go.Proofs.Ytipcdioolafkpaa.frames Go.Proofs.Ytipcdioolafkpaa.reader Go.Proofs.Ytipcdioolafkpaa.one Go.Proofs.Ytipcdioolafkpaa.many Go.Proofs.Ytipcdioolafkpaa.draws
set_option linter.unusedVariables false

theorem rd_lt {w : World} {ao : Option Addr} {n cap : Nat} {xs : List Int} (h : RdA w (.slice ao n cap) xs) : 0 < xs.length → ∀ x, ao = some x → x.block < w.heap.size := by
  intro hp x hx
  obtain ⟨⟨ao', cap', e, _, _, _, h4⟩, _⟩ := h
  simp only [Value.slice.injEq] at e
  obtain ⟨rfl, _, _⟩ := e
  obtain ⟨b, off, rfl, hc⟩ := h4 hp
  simp only [Option.some.injEq] at hx
  subst hx
  exact cell_lt (hc 0 hp)

theorem SS.grown {w w' : World} {d : Nat} {ao : Option Addr} {cap : Nat} {xs : List Int} {at_ : Nat} {sd : Int} {row : Option Nat} (h : SS w d ao cap xs at_ sd) (hg : w.grownBy w' row) (hd : row ≠ some d) (hx : 0 < xs.length → ∀ x, ao = some x → row ≠ some x.block) :
    SS w' d ao cap xs at_ sd :=
  ⟨(hg.block d h.lt (fun e => hd e.symm)).trans h.blk, rd_grown h.data hg hx, h.far, h.sd0, h.sd1⟩

theorem Kept.grown {d : Nat} {w wr w1 : World} {row : Option Nat} (h : Kept d w wr) (hd : d ≤ w.heap.size) (hg : wr.grownBy w1 row) (hr : ∀ k, row = some k → w.heap.size ≤ k) : Kept d w w1 := by
  refine ⟨fun base e v n us he ho => World.ownsRow.kept (h.1 base e v n us he ho) hg ?_, h.2.grown hg (by have := h.2.size; omega) (fun k hk => by have := hr k hk; omega)⟩
  cases hv : v.ownBlock with
  | none => exact .inl rfl
  | some k =>
    refine .inr fun e' => ?_
    have h1 := (World.ownsRow.lt ho k hv).2
    have h2 := hr k e'.symm
    omega
theorem Kept.own {d : Nat} {w w' : World} {base : Nat} {v : Value} {xs : List Int} (h : Kept d w w') (ho : Own w base v xs) : Own w' base v xs := ⟨ho.1, h.1 base 5 v _ _ (by decide) ho.2⟩
theorem Kept.pile {d : Nat} {w w' : World} {base : Nat} {us : List Value} {xss : List (List Int)} (h : Kept d w w') (ho : Pile w base us xss) : Pile w' base us xss := ⟨ho.1, fun i hi => Kept.own h (ho.2.1 i hi), ho.2.2⟩

/-- Bytes are drawn. -/
def BytesOf (n : Nat) (w : World) (d : Nat) (ao : Option Addr) (cap : Nat) (xs : List Int) (at_ : Nat) (v : Value) (w' : World) : Prop :=
  ∃ (ys : List Int) (a : Nat) (sd' : Int), Own w' w.heap.size v ys ∧ ys.length ≤ n ∧ a ≤ at_ + 3 * (n + 1) ∧ SS w' d ao cap xs a sd' ∧ Kept d w w'

set_option maxHeartbeats 1000000 in
theorem bytes_any (w : World) (d : Nat) (ao : Option Addr) (cap : Nat) (xs : List Int) (at_ : Nat) (sd : Int) (n : Nat) (hn : n ≤ 200) (h : SS w d ao cap xs at_ sd) (hat : at_ ≤ 100000000000) :
    Calls Try.prog 39 #[.pointer (some ⟨d, 0, none⟩), .int .i64 n] w fun e w' => ∃ v, e = .returned v ∧ BytesOf n w d ao cap xs at_ v w' := by
  obtain ⟨i0, hi, hz0, hz1, hz2⟩ := info_parts info5
  have HI : Hid (Try.prog.info? 5 = some i0 ∧ i0.zero = some (.int .u8 0) ∧ i0.size = 1 ∧ i0.bytes = 1) := ⟨hi, hz0, hz1, hz2⟩
  clear hi hz0 hz1 hz2
  have HS : Hid (SS w d ao cap xs at_ sd) := h
  have HX : Hid (0 < xs.length → ∀ x, ao = some x → x.block < w.heap.size) := rd_lt h.data
  have hd := h.lt
  clear h
  go_enter Try.func39, Try.ntmps39
  go_wp2_with fail
  have hba : Below w.heap.size w (w.alloc (.cells #[] 5)) := (Below.refl _ _).alloc (Nat.le_refl _) _
  refine (next_any _ d ao cap xs at_ sd ((n : Int) + 1) (by omega) (HS.out.below hba) (by omega)).mono ?_
  rintro e w1 ⟨r, rfl, a1, sd1, r0, r1, ha1, S1, K1⟩
  have HO1 : Own w1 w.heap.size (.slice (some ⟨w.heap.size, 0, none⟩) 0 0) [] := Kept.own K1 ⟨by simp, World.ownsRow_lit _ #[] 0 (Nat.le_refl _) (by simp [maxLen]) (by simp)⟩
  have HK1 : Kept d w w1 := (kept_of (by omega) hba).trans K1
  obtain ⟨R, rfl⟩ := Int.eq_ofNat_of_zero_le r0
  have hR : R ≤ n := by omega
  have H0 : Hid (Own w1 w.heap.size (.slice (some ⟨w.heap.size, 0, none⟩) 0 0) [] ∧ SS w1 d ao cap xs a1 sd1 ∧ Kept d w w1) := ⟨HO1, S1, HK1⟩
  clear HO1 HK1 S1 K1 r0 r1 hba HS
  go_wp2
  go_loopw [5, 6] (fun v i wr => ∃ (k : Nat) (ys : List Int) (a : Nat) (sd' : Int), i = .int .i64 k ∧ k + ys.length ≤ n ∧ a + 3 * k ≤ at_ + 3 * (n + 1) ∧ Hid (Own wr w.heap.size v ys ∧ SS wr d ao cap xs a sd' ∧ Kept d w wr)) (fun _ i _ => (intOf i).toNat)
  case atStart => exact ⟨R, [], a1, sd1, rfl, by simpa using hR, by omega, H0⟩
  case round =>
    obtain ⟨k, ys, a, sd', rfl, hk, ha, HR⟩ := hrel
    by_cases hk0 : (0 : Int) < k
    · go_wp2_with fail
      refine (next_any _ d ao cap xs a sd' 256 (by omega) HR.out.2.1 (by omega)).mono ?_
      rintro e w2 ⟨r, rfl, a2, sd2, r0, r1, ha2, S2, K2⟩
      have hr2 : 0 ≤ r ∧ r ≤ 255 := by omega
      have O2 := Kept.own K2 HR.out.1
      have HK2 : Kept d w w2 := HR.out.2.2.trans K2
      have hsz := HR.out.2.2.2.size
      have hsz2 : w.heap.size ≤ w2.heap.size := HK2.2.size
      have hrm : r % 256 = r := by omega
      have HR2 : Hid (Own w2 w.heap.size u5 ys ∧ SS w2 d ao cap xs a2 sd2 ∧ Kept d w w2) := ⟨O2, S2, HK2⟩
      clear O2 HK2 S2 K2 HR
      go_wp2_with (at_builtin; refine wpList_append_own _ rfl _ _ 22 rfl w.heap.size 5 i0 (.int .u8 0) 1 1 Try.underlying22 HI.out.1 HI.out.2.1 HI.out.2.2.1 HI.out.2.2.2 rfl (by decide) _ _ _ rfl (HR2.out.1.2.alloc _) ⟨w2.heap.size, 0, none⟩ 1 1 [.int .u8 r] rfl rfl (cell_one_new _ _ _) ?c2 ?c3 ?c4 ?c5 ?_)
      case c2 => intro u hu; simp at hu; subst hu; rfl
      case c3 => unfold maxLen; omega
      case c4 => omega
      case c5 => first | omega | (simp; omega)
      intro v' w3 hown' hgrow _
      have HS : Hid (Own w3 w.heap.size v' (ys ++ [r]) ∧ SS w3 d ao cap xs a2 sd2 ∧ Kept d w w3) := by
        have hlow := HR2.out.1.lt
        have hg : w2.grownBy w3 u5.ownBlock := grown_trans (World.grownBy_alloc w2 _ _) hgrow
        refine hide ⟨own_snoc (w := w2) HR2.out.1.1 hr2 hown', SS.grown HR2.out.2.1 hg (fun e => ?_) (fun hp x hx e => ?_), Kept.grown HR2.out.2.2 (by omega) hg (fun k hk => (hlow k hk).1)⟩
        · have := (hlow _ e).1; omega
        · have := (hlow _ e).1; have := HX.out hp x hx; omega
      clear hown' hgrow HR2 HI
      go_wp2
      go_roundw
      case rel => exact ⟨k - 1, ys ++ [r], a2, sd2, by go_num, by simp; omega, by omega, HS⟩
      case measure => simp [intOf]; omega
    · have hk1 : k = 0 := by omega
      subst hk1
      go_wp2
      go_ret
      exact ⟨_, rfl, ys, a, sd', HR.out.1, by omega, by omega, HR.out.2.1, HR.out.2.2⟩

set_option maxHeartbeats 400000 in
theorem source_any (w : World) (ao : Option Addr) (cap : Nat) (xs : List Int) (h : RdA w (.slice ao xs.length cap) xs) :
    Calls Try.prog 36 #[.slice ao xs.length cap] w fun e w' => e = .returned (.pointer (some ⟨w.heap.size, 0, none⟩)) ∧ w.heap.size < w'.heap.size ∧ Below w.heap.size w w' ∧ ∃ sd, SS w' w.heap.size ao cap xs 0 sd := by
  have HR : Hid (RdA w (.slice ao xs.length cap) xs) := h
  obtain ⟨_, h1, h2⟩ := le_cap h.1
  unfold maxLen at h2
  clear h
  go_enter Try.func36, Try.ntmps36
  go_wp2
  go_ret
  have hb : ∀ s : Int, Below w.heap.size w (w.alloc (.cells #[.slice ao xs.length cap, .int .i64 0, .int .i64 s] 96)) := fun s => (Below.refl _ _).alloc (Nat.le_refl _) _
  refine ⟨rfl, by simp, hb _, _, heap_alloc_new w _, HR.out.below (hb _) (Nat.le_refl _), fun hp x hx => ?_, ?_, ?_⟩
  · have := rd_lt HR.out hp x hx
    omega
  · omega
  · omega

/-- One slice more in a row of slices, each of which owns its bytes. -/
theorem pile_push {w w' : World} {base K : Nat} {pv v : Value} {us : List Value} {xss : List (List Int)} {ys : List Int} (hrow : w.ownsRow base 22 1 pv us.length us) (hp : Pile w base us xss) (HO : Own w K v ys) (hK : base ≤ K)
    (hus : ∀ i, i < us.length → ∀ k, (us.getD i (.slice none 0 0)).ownBlock = some k → k < K) (hg : w.grownBy w' pv.ownBlock) : Pile w' base (us ++ [v]) (xss ++ [ys]) := by
  have hpile : Pile w' base us xss := ⟨hp.1, fun i hi => own_kept (hp.2.1 i hi) hg (row_ne (hp.2.1 i hi) hrow), hp.2.2⟩
  refine pile_snoc hpile ((own_kept HO hg (row_ne HO hrow)).mono hK) (fun i hi k hk hvk => ?_)
  have h1 := hus i hi k hk
  have h2 := (HO.lt k hvk).1
  omega

/-- Payloads are drawn. -/
def PaysOf (w : World) (v : Value) (w' : World) : Prop :=
  ∃ (us : List Value) (pss : List (List Int)), w'.ownsRow w.heap.size 22 1 v us.length us ∧ Pile w' w.heap.size us pss ∧ pss.length ≤ 6 ∧ (∀ p ∈ pss, p.length ≤ 12) ∧ Below w.heap.size w w'

set_option maxHeartbeats 1000000 in
theorem payloads_any (w : World) (ao : Option Addr) (cap : Nat) (xs : List Int) (h : RdA w (.slice ao xs.length cap) xs) :
    Calls Try.prog 13 #[.slice ao xs.length cap] w fun e w' => ∃ v, e = .returned v ∧ PaysOf w v w' := by
  obtain ⟨i0, hi, hz0, hz1, hz2⟩ := info_parts info22
  have HI : Hid (Try.prog.info? 22 = some i0 ∧ i0.zero = some (.slice none 0 0) ∧ i0.size = 1 ∧ i0.bytes = 24) := ⟨hi, hz0, hz1, hz2⟩
  clear hi hz0 hz1 hz2
  have HR : Hid (RdA w (.slice ao xs.length cap) xs) := h
  have HX : Hid (0 < xs.length → ∀ x, ao = some x → x.block < w.heap.size) := rd_lt h
  clear h
  go_enter Try.func13, Try.ntmps13
  go_wp2_with fail
  refine (source_any w ao cap xs HR.out).mono ?_
  rintro e w1 ⟨rfl, hd1, B1, sd1, S1⟩
  go_wp2_with fail
  have hba : Below w1.heap.size w1 (w1.alloc (.cells #[] 22)) := (Below.refl _ _).alloc (Nat.le_refl _) _
  refine (size_any _ w.heap.size ao cap xs 0 sd1 (S1.below hba)).mono ?_
  rintro e w2 ⟨r, rfl, r1, r6, m, rfl⟩
  have S2 := (S1.below hba).below (below_same _ m)
  go_wp2_with fail
  refine (next_any _ w.heap.size ao cap xs 0 sd1 (r + 1) (by omega) S2 (by omega)).mono ?_
  rintro e w3 ⟨q, rfl, a3, sd3, q0, q1, ha3, S3, K3⟩
  obtain ⟨R, rfl⟩ := Int.eq_ofNat_of_zero_le q0
  have hR : R ≤ 6 := by omega
  have H0 : Hid (w3.ownsRow w.heap.size 22 1 (.slice (some ⟨w1.heap.size, 0, none⟩) 0 0) 0 [] ∧ Pile w3 w.heap.size [] [] ∧ SS w3 w.heap.size ao cap xs a3 sd3 ∧ Below w.heap.size w w3) := by
    refine hide ⟨K3.1 _ 22 _ _ _ (by decide) ?_, Pile.nil _ _, S3, ?_⟩
    · exact World.ownsRow_lit _ #[] 0 (by omega) (by simp [maxLen]) (by simp)
    · exact (B1.trans ((hba.mono (by omega)).trans ((below_same _ m).mono (by simp; omega)))).trans K3.2
  clear K3 S3 S2 S1 hba q0 q1 B1 HR
  go_wp2
  go_loopw [4, 5] (fun v i wr => ∃ (k : Nat) (us : List Value) (pss : List (List Int)) (a : Nat) (sd' : Int), i = .int .i64 k ∧ k + us.length ≤ 6 ∧ a + 39 * k ≤ 300 ∧ Hid (wr.ownsRow w.heap.size 22 1 v us.length us ∧ Pile wr w.heap.size us pss ∧ (∀ p ∈ pss, p.length ≤ 12) ∧ SS wr w.heap.size ao cap xs a sd' ∧ Below w.heap.size w wr)) (fun _ i _ => (intOf i).toNat)
  case atStart => exact ⟨R, [], [], a3, sd3, rfl, by simpa using hR, by omega, hide ⟨H0.out.1, H0.out.2.1, by simp, H0.out.2.2.1, H0.out.2.2.2⟩⟩
  case round =>
    obtain ⟨k, us, pss, a, sd', rfl, hk, ha, HR⟩ := hrel
    have hsz := HR.out.2.2.2.2.size
    by_cases hk0 : (0 : Int) < k
    · go_wp2_with fail
      refine (bytes_any wr w.heap.size ao cap xs a sd' 12 (by omega) HR.out.2.2.2.1 (by omega)).mono ?_
      rintro e w4 ⟨u, rfl, ys, a4, sd4, O4, hy4, ha4, S4, K4⟩
      obtain ⟨o4, c4, hu4, _⟩ := O4.rd
      subst hu4
      have hsz4 := K4.2.size
      have H4 : Hid (w4.ownsRow w.heap.size 22 1 u4 us.length us ∧ Pile w4 w.heap.size us pss ∧ SS w4 w.heap.size ao cap xs a4 sd4 ∧ Below w.heap.size w w4 ∧ Own w4 wr.heap.size (.slice o4 ys.length c4) ys) := ⟨K4.1 _ 22 _ _ _ (by decide) HR.out.1, Kept.pile K4 HR.out.2.1, S4, HR.out.2.2.2.2.trans K4.2, O4⟩
      have HUS : Hid (∀ i, i < us.length → ∀ k, (us.getD i (.slice none 0 0)).ownBlock = some k → k < wr.heap.size) := fun i hi k hk => ((HR.out.2.1.2.1 i hi).lt k hk).2
      have HPS : Hid (∀ p ∈ pss ++ [ys], p.length ≤ 12) := fun p hp => by
        simp only [List.mem_append, List.mem_singleton] at hp
        rcases hp with hp | rfl
        · exact HR.out.2.2.1 p hp
        · exact hy4
      clear O4 S4 K4 HR
      go_wp2_with (at_builtin; refine wpList_append_own _ rfl _ _ 29 rfl w.heap.size 22 i0 (.slice none 0 0) 1 24 Try.underlying29 HI.out.1 HI.out.2.1 HI.out.2.2.1 HI.out.2.2.2 rfl (by decide) _ _ _ rfl (H4.out.1.alloc _) ⟨w4.heap.size, 0, none⟩ 1 1 [.slice o4 ys.length c4] rfl rfl (cell_one_new _ _ _) ?c2 ?c3 ?c4 ?c5 ?_)
      case c2 => intro u hu; simp at hu; subst hu; rfl
      case c3 => unfold maxLen; omega
      case c4 => omega
      case c5 => first | omega | (simp; omega)
      intro v' w5 hown' hgrow _
      have H5 : Hid (w5.ownsRow w.heap.size 22 1 v' (us ++ [Value.slice o4 ys.length c4]).length (us ++ [.slice o4 ys.length c4]) ∧ Pile w5 w.heap.size (us ++ [.slice o4 ys.length c4]) (pss ++ [ys]) ∧ (∀ p ∈ pss ++ [ys], p.length ≤ 12) ∧ SS w5 w.heap.size ao cap xs a4 sd4 ∧ Below w.heap.size w w5) := by
        have hlow := World.ownsRow.lt H4.out.1
        have hg : w4.grownBy w5 u4.ownBlock := grown_trans (World.grownBy_alloc w4 _ _) hgrow
        refine hide ⟨by rw [List.length_append]; exact hown', pile_push H4.out.1 H4.out.2.1 H4.out.2.2.2.2 hsz HUS.out hg, HPS.out, SS.grown H4.out.2.2.1 hg (own_other H4.out.1 H4.out.2.2.1.blk (by decide)) (fun hp x hx e => ?_), H4.out.2.2.2.1.grown hg (by omega) (fun k hk => (hlow k hk).1)⟩
        have := (hlow _ e).1; have := HX.out hp x hx; omega
      clear hown' hgrow H4 HI HUS HPS
      go_wp2
      go_roundw
      case rel => exact ⟨k - 1, us ++ [Value.slice o4 ys.length c4], pss ++ [ys], a4, sd4, by go_num, by simp; omega, by omega, H5⟩
      case measure => simp [intOf]; omega
    · have hk1 : k = 0 := by omega
      subst hk1
      go_wp2
      go_ret
      exact ⟨_, rfl, us, pss, HR.out.1, HR.out.2.1, by rw [← HR.out.2.1.1]; omega, HR.out.2.2.1, HR.out.2.2.2.2⟩
end Go.Proofs.Ytipcdioolafkpaa.payloads

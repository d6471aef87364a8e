/- FnFrames returns true at all bytes and leaves them as they were: payloads in frames are read back, in whatever pieces the frames come; no condition. -/
import Derived.Test.YtipcdioolafkpaaChoice
import Derived.Test.YtipcdioolafkpaaParts
import Derived.Test.YtipcdioolafkpaaPayloads
import Derived.Test.YtipcdioolafkpaaSame
import Derived.OpenShut
import Derived.Deep.RegionLaw
import Derived.ShutString
import Derived.ChangeOld
namespace Go.Proofs.Ytipcdioolafkpaa.fnFrames
open Go.ChangeShapes Go.WideShapes Go.ChangeAt Go.RowKit
open Go.ChangeMaps (open_string shut_string)
open Go.Proofs.Ytipcdioolafkpaa.bytes Go.Proofs.Ytipcdioolafkpaa.pile Go.Proofs.Ytipcdioolafkpaa.put Go.Proofs.Ytipcdioolafkpaa.get Go.Proofs.Ytipcdioolafkpaa.dec Go.Proofs.Ytipcdioolafkpaa.choice Go.Proofs.Ytipcdioolafkpaa.back Go.Proofs.Ytipcdioolafkpaa.crcs Go.Proofs.Ytipcdioolafkpaa.join Go.Proofs.Ytipcdioolafkpaa.frames Go.Proofs.Ytipcdioolafkpaa.take Go.Proofs.Ytipcdioolafkpaa.reader Go.Proofs.Ytipcdioolafkpaa.one Go.Proofs.Ytipcdioolafkpaa.many Go.Proofs.Ytipcdioolafkpaa.differ Go.Proofs.Ytipcdioolafkpaa.changed Go.Proofs.Ytipcdioolafkpaa.feeds Go.Proofs.Ytipcdioolafkpaa.parts Go.Proofs.Ytipcdioolafkpaa.draws Go.Proofs.Ytipcdioolafkpaa.payloads Go.Proofs.Ytipcdioolafkpaa.same
set_option linter.unusedVariables false

theorem own : ownKnob Try.prog.godebug = none := by kernel_rfl
theorem laidOut : laidOutB Try.prog = true := by kernel_rfl

/-- WHAT THE WALK IS TOLD OF A SLICE OF INTEGERS THAT CAME IN: it is nil; or it leads to a row of 'cap' cells, the numbers 'zs' (the first 'len' are its elements, the rest its spare room), each fitting its kind. -/
def IsRow (k : IntKind) (w : World) (a : Option Addr) (len cap : Nat) (zs : List Int) : Prop :=
  (a = none ∧ len = 0 ∧ cap = 0 ∧ zs = []) ∨
  ∃ x, a = some x ∧ len ≤ cap ∧ cap ≤ maxLen ∧ zs.length = cap ∧ (∀ i, i < zs.length → w.cell? (x.add i) = some (.int k (zs.getD i 0))) ∧ ∀ n ∈ zs, (Lit.int k n).wf = true

theorem rd_of_row {w : World} {a : Option Addr} {len cap : Nat} {zs : List Int} (h : IsRow .u8 w a len cap zs) : ∃ xs : List Int, Rd w (.slice a len cap) xs ∧ xs.length = len := by
  rcases h with ⟨rfl, rfl, rfl, rfl⟩ | ⟨x, rfl, hl, hm, hz, hcell, hwz⟩
  · exact ⟨[], ⟨none, 0, rfl, by simp, by simp [maxLen], by simp, by simp⟩, rfl⟩
  · have hlen : (zs.take len).length = len := by simp; omega
    refine ⟨zs.take len, ⟨some x, cap, by rw [hlen], by omega, hm, ?_, fun hp => ?_⟩, hlen⟩
    · intro y hy
      have := hwz y (List.mem_of_mem_take hy)
      simpa [Lit.wf, IntKind.min, IntKind.max, IntKind.signed, IntKind.bits] using this
    · obtain ⟨b, off, spot⟩ := x
      have hc := hcell 0 (by omega)
      have hspot : spot = none := by simpa [Addr.add] using World.cell?_spot hc
      subst hspot
      refine ⟨b, off, rfl, fun i hi => ?_⟩
      have := hcell i (by omega)
      have hadd : (⟨b, off, none⟩ : Addr).add i = ⟨b, off + i, none⟩ := by
        unfold Addr.add
        split
        · rename_i h; subst h; rfl
        · rfl
      rw [hadd] at this
      rw [this]
      have hi' : i < len := by omega
      simp [List.getD_eq_getElem?_getD, hi']

theorem le_max_of {w : World} {v : Value} {xs : List Int} (h : Rd w v xs) : xs.length ≤ maxLen := by
  obtain ⟨ao, cap, _, h1, h2, _⟩ := h
  omega

theorem rdA_of_row {w : World} {a : Option Addr} {len cap : Nat} {zs : List Int} (h : IsRow .u8 w a len cap zs) : ∃ xs : List Int, RdA w (.slice a len cap) xs ∧ xs.length = len := by
  obtain ⟨xs, h1, h2⟩ := rd_of_row h
  refine ⟨xs, ⟨h1, fun n c e => ?_⟩, h2⟩
  rcases h with ⟨rfl, rfl, rfl, rfl⟩ | ⟨x, rfl, _⟩
  · rfl
  · simp at e
theorem frame_le {p : List Int} (h : p.length ≤ 12) : (frameN p).length ≤ 17 := by
  rw [frameN_length, putN_lt (by omega)]
  simp
  omega
theorem stream_le : ∀ (pss : List (List Int)), (∀ p ∈ pss, p.length ≤ 12) → (stream pss).length ≤ 17 * pss.length
  | [], _ => by simp [stream]
  | p :: pss, h => by
    have h1 := stream_le pss (fun q hq => h q (by simp [hq]))
    have h2 := frame_le (h p (by simp))
    rw [stream_cons, List.length_append, List.length_cons]
    omega
theorem stream_take {pss : List (List Int)} {k : Nat} (h : k < pss.length) : stream (pss.take (k + 1)) = stream (pss.take k) ++ frameN (pss.getD k []) := by
  have e : pss.getD k [] = pss[k] := by simp [List.getD_eq_getElem?_getD, h]
  rw [List.take_succ_eq_append_getElem h, e]
  simp only [stream, List.map_append, List.map_cons, List.map_nil, List.flatten_append, List.flatten_cons, List.flatten_nil, List.append_nil]
theorem row_form {w : World} {base : Nat} {a : Value} {us : List Value} (h : w.ownsRow base 22 1 a us.length us) : ∃ ao cap, a = .slice ao us.length cap ∧ us.length ≤ cap ∧ cap ≤ maxLen ∧ (0 < us.length → ∃ b off, ao = some ⟨b, off, none⟩ ∧ ∀ i, i < us.length → w.cell? ⟨b, off + i, none⟩ = some (us.getD i (.slice none 0 0))) := row_rdS h
theorem pre_rd {w : World} {ao : Option Addr} {cap n : Nat} {xs : List Int} (h : RdA w (.slice ao xs.length cap) xs) (hn : n ≤ xs.length) : RdA w (.slice ao n cap) (xs.take n) := by
  obtain ⟨⟨ao', cap', e, h1, h2, h3, h4⟩, hnil⟩ := h
  simp only [Value.slice.injEq, true_and] at e
  obtain ⟨rfl, rfl⟩ := e
  have hl : (xs.take n).length = n := by simp; omega
  refine ⟨⟨ao, cap, by rw [hl], by omega, h2, fun x hx => h3 x (List.mem_of_mem_take hx), fun hp => ?_⟩, fun n' c e => ?_⟩
  · obtain ⟨b, off, rfl, hc⟩ := h4 (by omega)
    refine ⟨b, off, rfl, fun i hi => ?_⟩
    rw [hc i (by omega)]
    have hi' : i < n := by omega
    simp [List.getD_eq_getElem?_getD, hi']
  · simp only [Value.slice.injEq] at e
    obtain ⟨rfl, rfl, rfl⟩ := e
    have := hnil _ _ rfl
    simp only [Value.slice.injEq, true_and] at this
    obtain ⟨h5, rfl⟩ := this
    obtain rfl : n = 0 := by omega
    rfl

theorem cutV_eq (ao : Option Addr) (cap a n : Nat) : cutV ao cap a n = .slice (if cap = a then ao else ao.map fun x => x.add a) n (cap - a) := by
  unfold cutV
  split
  · rename_i h
    rw [h, Nat.sub_self]
  · rfl
theorem rdS_take {w : World} {ao : Option Addr} {cap n : Nat} {us : List Value} (h : RdS w (.slice ao us.length cap) us) (hn : n ≤ us.length) : RdS w (.slice ao n cap) (us.take n) := by
  obtain ⟨ao', cap', e, h1, h2, h4⟩ := h
  simp only [Value.slice.injEq, true_and] at e
  obtain ⟨rfl, rfl⟩ := e
  have hl : (us.take n).length = n := by simp; omega
  refine ⟨ao, cap, by rw [hl], by omega, h2, fun hp => ?_⟩
  obtain ⟨b, off, rfl, hc⟩ := h4 (by omega)
  refine ⟨b, off, rfl, fun i hi => ?_⟩
  rw [hc i (by omega)]
  have hi' : i < n := by omega
  simp [List.getD_eq_getElem?_getD, hi']
theorem texts_take {w : World} {us : List Value} {xss : List (List Int)} (h : Texts w us xss) (n : Nat) : Texts w (us.take n) (xss.take n) := by
  refine ⟨by rw [List.length_take, List.length_take, h.1], fun i hi => ?_⟩
  rw [List.length_take] at hi
  have hi' : i < n := by omega
  have := h.2 i (by omega)
  simpa [List.getD_eq_getElem?_getD, hi'] using this
theorem feed_at (T : World) (p : Nat) (va v1 v2 v3 : Value) (X : List Int) (pss : List (List Int)) (K J : Nat) (hl : X.length ≤ 102)
    (hf : feedA (X.take K) [(X.take J).drop K, [], X.drop J] = (pss, [], 0)) (hblk : T.heap[p]? = some (.cells #[v1, v2, v3] 22 (0, 0))) (ha : RdA T va (X.take K)) (h1 : RdA T v1 ((X.take J).drop K)) (h2 : RdA T v2 []) (h3 : RdA T v3 (X.drop J)) :
    Calls Try.prog 17 #[va, .slice (some ⟨p, 0, none⟩) 3 3] T fun e w' => ∃ po pc us3 ro rc, e = .returned (.tuple #[.slice po us3.length pc, .slice ro 0 rc, .int .i64 0]) ∧ us3.length ≤ pc ∧ pc ≤ maxLen ∧ Hid (RdS w' (.slice po us3.length pc) us3 ∧ Texts w' us3 pss) ∧ Hid (Below T.heap.size T w') := by
  have hc : RdS T (.slice (some ⟨p, 0, none⟩) 3 3) [v1, v2, v3] := by
    refine ⟨some ⟨p, 0, none⟩, 3, rfl, by simp, by simp [maxLen], fun _ => ⟨p, 0, rfl, fun i hi => ?_⟩⟩
    simp only [List.length_cons, List.length_nil] at hi
    simp only [World.cell?, hblk]
    match i, hi with
    | 0, _ => rfl
    | 1, _ => rfl
    | 2, _ => rfl
  have ht : Texts T [v1, v2, v3] [(X.take J).drop K, [], X.drop J] := by
    refine ⟨rfl, fun i hi => ?_⟩
    simp only [List.length_cons, List.length_nil] at hi
    match i, hi with
    | 0, _ => exact h1
    | 1, _ => exact h2
    | 2, _ => exact h3
  refine (implFeed T va _ _ _ _ ha hc ht (fun i hi => ?_)).mono ?_
  · simp only [List.length_cons, List.length_nil] at hi
    match i, hi with
    | 0, _ => simp; omega
    | 1, _ => simp
    | 2, _ => simp; omega
  · rintro e w' ⟨v, us3, r, rfl, HG, HP, HO, _, hb⟩
    rw [hf] at HP HO ⊢
    obtain ⟨po, pc, rfl, h5, h6, _⟩ := row_form HG
    obtain ⟨ro, rc, rfl, _⟩ := HO.rd
    exact ⟨po, pc, us3, ro, rc, rfl, h5, h6, ⟨row_rdS HG, HP.texts⟩, hb⟩
theorem row_below {w w' : World} {base : Nat} {a : Value} {us : List Value} (h : w.ownsRow base 22 1 a us.length us) (hb : Below w.heap.size w w') : w'.ownsRow base 22 1 a us.length us := by
  obtain ⟨h1, h2 | ⟨g, c, cur, rfl, hbg, hg, r⟩⟩ := h
  · exact ⟨h1, .inl h2⟩
  · exact ⟨h1, .inr ⟨g, c, cur, rfl, hbg, (hb.block g (Array.getElem?_eq_some_iff.1 hg).1).trans hg, r⟩⟩

set_option maxRecDepth 20000 in
set_option maxHeartbeats 2000000 in
theorem walk (a0 : Option Addr) (len0 cap0 : Nat) (z0 : List Int) (a1 : Option Addr) (len1 cap1 : Nat) (z1 : List Int) (w : World) (w0 : IsRow .u8 w a0 len0 cap0 z0) (w1 : IsRow .u8 w a1 len1 cap1 z1) :
    Calls Try.prog 4 #[.slice a0 len0 cap0, .slice a1 len1 cap1] w fun e w' => e = .returned (.bool true) ∧ Below w.heap.size w w' := by
  obtain ⟨xs, HR, hlen⟩ : ∃ xs : List Int, RdA w (.slice a0 len0 cap0) xs ∧ xs.length = len0 := rdA_of_row w0
  obtain ⟨ms, HM, hlen2⟩ : ∃ ms : List Int, RdA w (.slice a1 len1 cap1) ms ∧ ms.length = len1 := rdA_of_row w1
  clear w0 w1
  subst hlen
  subst hlen2
  have hm := le_max_of HR.1
  have hm2 := le_max_of HM.1
  unfold maxLen at hm hm2
  by_cases hbig : (1048576 : Int) < xs.length
  · go_enter Try.func4, Try.ntmps4
    go_wp2
    go_ret
    exact ⟨rfl, Below.refl _ _⟩
  by_cases hbig2 : (1048576 : Int) < ms.length
  · go_enter Try.func4, Try.ntmps4
    go_wp2
    go_ret
    exact ⟨rfl, Below.refl _ _⟩
  go_enter Try.func4, Try.ntmps4
  go_wp2_with fail
  refine (payloads_any w a0 cap0 xs HR).mono ?_
  rintro e w1 ⟨vL, rfl, us, pss, HL, HP, hp6, hp12, b1⟩
  obtain ⟨lo, lc, hvL, hl1, hl2, hcell⟩ := row_form HL
  subst hvL
  unfold maxLen at hl2
  have HUS : Hid (us.length = pss.length) := HP.1
  have hu6' : us.length ≤ 6 := by have := HP.1; omega
  have HList : Hid (∀ w', Below w1.heap.size w1 w' → RdS w' (.slice lo us.length lc) us ∧ Texts w' us pss) := fun w' hb => ⟨row_rdS (row_below HL hb), (HP.below hb (Nat.le_refl _)).texts⟩
  have HCell : Hid (0 < us.length → ∃ b off, lo = some ⟨b, off, none⟩ ∧ ∀ i, i < us.length → w1.cell? ⟨b, off + i, none⟩ = some (us.getD i (.slice none 0 0))) := hcell
  have HB1 : Hid (Below w.heap.size w w1) := b1
  have H12 : Hid (∀ p ∈ pss, p.length ≤ 12) := hp12
  have s1 := b1.size
  clear HL HP hcell b1 hp12
  go_wp2
  go_loopw [6, 7] (fun v i wr => ∃ k : Nat, k ≤ us.length ∧ i = .int .i64 k ∧ Hid (Own wr w1.heap.size v (stream (pss.take k)) ∧ Below w1.heap.size w1 wr)) (fun _ i _ => us.length - (intOf i).toNat)
  case atStart => exact ⟨0, by omega, rfl, hide ⟨⟨by simp [stream], World.ownsRow_lit _ #[] 0 (Nat.le_refl _) (by simp [maxLen]) (by simp)⟩, (Below.refl _ _).alloc (Nat.le_refl _) _⟩⟩
  case round =>
    obtain ⟨k, hk, rfl, HK⟩ := hrel
    have hszr := HK.out.2.size
    by_cases hlt : k < us.length
    · obtain ⟨lb, loff, rfl, hca⟩ := HCell.out (by omega)
      have hc1 := hca k hlt
      have hc : wr.cell? ⟨lb, loff + k, none⟩ = some (us.getD k (.slice none 0 0)) := (HK.out.2.cell (by have := cell_lt hc1; simpa using this)).trans hc1
      have HT : Hid (RdA wr (us.getD k (.slice none 0 0)) (pss.getD k [])) := (HList.out wr HK.out.2).2.2 k hlt
      have hpk : (pss.getD k []).length ≤ 12 := by
        have e : pss.getD k [] = pss[k]'(by have := HUS.out; omega) := by simp [List.getD_eq_getElem?_getD, show k < pss.length by have := HUS.out; omega]
        rw [e]
        exact H12.out _ (List.getElem_mem _)
      have HST : Hid (stream (pss.take (k + 1)) = stream (pss.take k) ++ frameN (pss.getD k [])) := stream_take (by have := HUS.out; omega)
      clear hca hc1
      generalize us.getD k (.slice none 0 0) = u at hc HT
      generalize pss.getD k [] = P at HT HST hpk
      go_wp2_with fail
      refine (implFrame_good wr u P (by omega) HT.out).mono ?_
      rintro e w2 ⟨vF, rfl, HF, b2⟩
      have s2 := b2.size
      have hstl : (stream (pss.take k)).length ≤ 17 * 6 := by
        have h1 := stream_le (pss.take k) (fun p hp => H12.out p (List.mem_of_mem_take hp))
        have h2 : (pss.take k).length ≤ 6 := by rw [List.length_take]; omega
        omega
      have hfl := frame_le hpk
      have O2 := HK.out.1.below b2 (Nat.le_refl _)
      have HO : Hid (Own w2 w1.heap.size u6 (stream (pss.take k)) ∧ RdA w2 vF (frameN P) ∧ Below w1.heap.size w1 w2) := ⟨O2, Own.rdA HF, HK.out.2.trans (b2.mono (by omega))⟩
      clear O2 HF b2 HT
      go_wp2_with (at_builtin; refine wpList_append_rd _ rfl _ _ 22 rfl Try.underlying22 info5 w1.heap.size _ _ rfl HO.out.1 _ _ rfl HO.out.2.1 ?d1 ?d2 ?_)
      case d1 => omega
      case d2 => omega
      intro v' w3 hO3 hg3
      have H3 : Hid (Own w3 w1.heap.size v' (stream (pss.take (k + 1))) ∧ Below w1.heap.size w1 w3) := by
        refine hide ⟨by rw [HST.out]; exact hO3, HO.out.2.2.grown hg3 (by omega) (fun j hj => (HO.out.1.lt j hj).1)⟩
      clear hO3 hg3 HO HK
      go_wp2
      go_roundw
      case rel => exact ⟨k + 1, by omega, by go_num, H3⟩
      case measure => simp [intOf]; omega
    · obtain rfl : k = us.length := by omega
      have HA := HK.out.1
      rw [HUS.out, List.take_length] at HA
      have hsl : (stream pss).length ≤ 102 := by
        have := stream_le pss H12.out
        omega
      have Hpl : Hid (∀ x ∈ pss, x.length ≤ 4096) := fun x hx => by have := H12.out x hx; omega
      obtain ⟨ga, ca, hu6, hca1, hca2, _, hcells⟩ := HA.rd
      subst hu6
      unfold maxLen at hca2
      go_wp2_with fail
      refine (implUnframe _ _ (stream pss) (Own.rdA HA)).mono ?_
      rintro e w2 ⟨vG, us2, rfl, HG, HGP, b2⟩
      rw [unf_full pss Hpl.out (by omega)] at HGP ⊢
      simp only at HGP ⊢
      obtain ⟨go, gc, hvG, hg1, hg2, _⟩ := row_form HG
      subst hvG
      unfold maxLen at hg2
      have s2 := b2.size
      have BL2 : Below w1.heap.size w1 w2 := HK.out.2.trans (b2.mono (by omega))
      have HA2 := HA.below b2 (Nat.le_refl _)
      have HS1 : Hid (RdS w2 (.slice go us2.length gc) us2 ∧ Texts w2 us2 pss) := ⟨row_rdS HG, HGP.texts⟩
      have HW2 : Hid (Below w1.heap.size w1 w2) := BL2
      have HA3 : Hid (Own w2 w1.heap.size (.slice ga (stream pss).length ca) (stream pss)) := HA2
      have HL2 : Hid (us2.length = pss.length) := HGP.1
      have hfeed := feed_three pss Hpl.out (by omega)
      have HFd : Hid (∀ (k j : Nat), k ≤ j → feedA ((stream pss).take k) [((stream pss).take j).drop k, [], (stream pss).drop j] = (pss, [], 0)) := hfeed
      have HUp : Hid (∀ k, ∃ m, m ≤ pss.length ∧ unfA ((stream pss).take k) = (pss.take m, (stream (pss.take m)).length, 0) ∧ (stream (pss.take m)).length ≤ k) := fun k => unf_part pss Hpl.out (by omega) k
      clear HG HGP b2 BL2 HA2 HA HK hfeed hcells Hpl H12
      generalize hX : stream pss = X at HA3 hsl hca1 HFd HUp ⊢
      have HX : Hid (stream pss = X) := hX
      clear hX
      generalize hLL : X.length = L at HA3 hsl hca1 ⊢
      have HLL : Hid (X.length = L) := hLL
      clear hLL
      have hne : ((L : Int) != (L : Int)) = false := by simp
      go_wp2_with fail
      refine (same_any _ _ _ us2 us pss HS1.out.1 (HList.out _ HW2.out).1 HS1.out.2 (HList.out _ HW2.out).2).mono ?_
      rintro e w3 ⟨rfl, m3, rfl⟩
      go_wp2_with fail
      refine (at_any _ _ ms 0 ((L : Int) + 1) (by omega) (by omega) (by exact ((HM.below (HB1.out.trans (HW2.out.mono s1)) (Nat.le_refl _)).1))).mono ?_
      rintro e w4 ⟨r, rfl, r0, r1, m4, rfl⟩
      obtain ⟨K, rfl⟩ := Int.eq_ofNat_of_zero_le r0
      have hK : K ≤ L := by omega
      clear r0 r1
      go_wp2_with fail
      refine (at_any _ _ ms 1 ((L : Int) - (K : Int) + 1) (by omega) (by omega) (by exact ((HM.below (HB1.out.trans (HW2.out.mono s1)) (Nat.le_refl _)).1))).mono ?_
      rintro e w5 ⟨r, rfl, r0, r1, m5, rfl⟩
      obtain ⟨R, rfl⟩ := Int.eq_ofNat_of_zero_le r0
      have hR : R ≤ L - K := by omega
      clear r0 r1 hne
      go_wp2
      rw [show (K : Int) + (R : Int) = ((K + R : Nat) : Int) from rfl]
      have hJ1 : K ≤ K + R := by omega
      have hJ2 : K + R ≤ L := by omega
      generalize K + R = J at hJ1 hJ2 ⊢
      clear hR
      have HC0 : Hid (RdA w2 (.slice ga K ca) (X.take K)) := by
        have h := Own.rdA HA3.out
        rw [← HLL.out] at h
        exact pre_rd h (by rw [HLL.out]; omega)
      have HC1 : Hid (RdA w2 (.slice (if ca = K then ga else ga.map fun x => x.add K) (J - K) (ca - K)) ((X.take J).drop K)) := by
        have h := Own.rdA HA3.out
        rw [← HLL.out] at h
        have h1 := cut_rd (at_ := K) (n := J - K) h (by rw [HLL.out]; omega)
        rw [cutV_eq] at h1
        rw [List.drop_take]
        exact h1
      have HC3 : Hid (RdA w2 (.slice (if ca = J then ga else ga.map fun x => x.add J) (L - J) (ca - J)) (X.drop J)) := by
        have h := Own.rdA HA3.out
        rw [← HLL.out] at h
        have h1 := cut_rd (at_ := J) (n := L - J) h (by rw [HLL.out]; omega)
        rwa [List.take_of_length_le (by rw [List.length_drop, HLL.out]; omega), cutV_eq] at h1
      have HCF : Hid (feedA (X.take K) [(X.take J).drop K, [], X.drop J] = (pss, [], 0)) := HFd.out K J hJ1
      have hj1 : (K : Int) ≤ (J : Int) := by omega
      have hj2 : (J : Int) ≤ (L : Int) := by omega
      have hj3 : (K : Int) ≤ ca := by omega
      have hj4 : (J : Int) ≤ ca := by omega
      have hj5 : (0 : Int) ≤ K := by omega
      have hj6 : (0 : Int) ≤ J := by omega
      have hXl : Hid (X.length ≤ 102) := by unfold Hid; rw [HLL.out]; exact hsl
      have HFeed : Hid (∀ n, Calls Try.prog 17 #[.slice ga K ca, .slice (some ⟨w2.heap.size + 1, 0, none⟩) 3 3] (((w2.drewN n).alloc (.cells #[] 5)).alloc (.cells #[.slice (if ca = K then ga else ga.map fun x => x.add K) (J - K) (ca - K), .slice (some ⟨w2.heap.size, 0, none⟩) 0 0, .slice (if ca = J then ga else ga.map fun x => x.add J) (L - J) (ca - J)] 22))
          fun e w' => ∃ po pc us3 ro rc, e = .returned (.tuple #[.slice po us3.length pc, .slice ro 0 rc, .int .i64 0]) ∧ us3.length ≤ pc ∧ pc ≤ maxLen ∧ Hid (RdS w' (.slice po us3.length pc) us3 ∧ Texts w' us3 pss) ∧ Hid (Below w2.heap.size w2 w')) := by
        intro n
        have b0 : Below w2.heap.size w2 ((w2.drewN n).alloc (.cells #[] 5)) := (below_same w2 n).alloc (Nat.le_refl _) _
        have bT : Below w2.heap.size w2 (((w2.drewN n).alloc (.cells #[] 5)).alloc (.cells #[.slice (if ca = K then ga else ga.map fun x => x.add K) (J - K) (ca - K), .slice (some ⟨w2.heap.size, 0, none⟩) 0 0, .slice (if ca = J then ga else ga.map fun x => x.add J) (L - J) (ca - J)] 22)) := b0.alloc (by simp) _
        refine (feed_at _ (w2.heap.size + 1) _ _ (.slice (some ⟨w2.heap.size, 0, none⟩) 0 0) _ X pss K J hXl.out HCF.out ?_ (HC0.out.below bT (Nat.le_refl _)) (HC1.out.below bT (Nat.le_refl _)) ?_ (HC3.out.below bT (Nat.le_refl _))).mono ?_
        · have := heap_alloc_new ((w2.drewN n).alloc (.cells #[] 5)) (.cells #[.slice (if ca = K then ga else ga.map fun x => x.add K) (J - K) (ca - K), .slice (some ⟨w2.heap.size, 0, none⟩) 0 0, .slice (if ca = J then ga else ga.map fun x => x.add J) (L - J) (ca - J)] 22)
          rwa [show ((w2.drewN n).alloc (.cells #[] 5)).heap.size = w2.heap.size + 1 by simp] at this
        · exact ⟨⟨some ⟨w2.heap.size, 0, none⟩, 0, rfl, by simp, by simp [maxLen], by simp, by simp⟩, fun _ _ e => by simp at e⟩
        · rintro e w' ⟨po, pc, us3, ro, rc, rfl, h1, h2, h3, h4⟩
          exact ⟨po, pc, us3, ro, rc, rfl, h1, h2, h3, bT.trans (h4.out.mono (by simp; omega))⟩
      go_region_law (first | (go_simp; go_at_call 17; refine (HFeed.out _).mono ?_; rintro e w6 ⟨po, pc, us3, ro, rc, rfl, h1, h2, H3, H4⟩))
      all_goals
        generalize (if ca = K then ga else ga.map fun x => x.add K) = dead1
        generalize (if ca = J then ga else ga.map fun x => x.add J) = dead3
        unfold maxLen at h2
        obtain ⟨m, hm, hu, hz⟩ := HUp.out K
        have B6 : Below w1.heap.size w1 w6 := HW2.out.trans (H4.out.mono (by omega))
        have s6 := H4.out.size
        clear HC1 HC3 HCF HFeed hj1 hj2 hj4 hj6
        go_wp2_with fail
        refine (implUnframe _ _ (X.take K) (HC0.out.below H4.out (Nat.le_refl _))).mono ?_
        rintro e w7 ⟨vQ, us4, rfl, HQ, HQP, b7⟩
        rw [hu] at HQP ⊢
        simp only at HQP ⊢
        obtain ⟨qo, qc, hvQ, hq1, hq2, _⟩ := row_form HQ
        subst hvQ
        unfold maxLen at hq2
        have B7 : Below w1.heap.size w1 w7 := B6.trans (b7.mono (by omega))
        have HP7 : Hid (RdS w7 (.slice po us3.length pc) us3 ∧ Texts w7 us3 pss) := ⟨H3.out.1.below b7 (Nat.le_refl _), H3.out.2.below b7 (Nat.le_refl _)⟩
        have HL7 : Hid (RdS w7 (.slice lo us.length lc) us ∧ Texts w7 us pss) := HList.out _ B7
        have h4m : us4.length = m := by rw [HQP.1, List.length_take]; omega
        have h4u : us4.length ≤ us.length := by rw [h4m, HUS.out]; exact hm
        have HQ7 : Hid (RdS w7 (.slice qo us4.length qc) us4 ∧ Texts w7 us4 (pss.take us4.length)) := ⟨row_rdS HQ, by rw [h4m]; exact HQP.texts⟩
        have HLT : Hid (RdS w7 (.slice lo us4.length lc) (us.take us4.length) ∧ Texts w7 (us.take us4.length) (pss.take us4.length)) := ⟨rdS_take HL7.out.1 h4u, texts_take HL7.out.2 _⟩
        have HB7 : Hid (Below w1.heap.size w1 w7) := B7
        clear h4m HQP HQ b7 hu H3 H4 B6 B7 HC0
        generalize (stream (pss.take m)).length = Z at hz ⊢
        have hz' : (Z : Int) ≤ K := by omega
        have h4u' : (us4.length : Int) ≤ us.length := by omega
        have h4c : (us4.length : Int) ≤ lc := by omega
        go_wp2_with fail
        refine (same_any _ _ _ us3 us pss HP7.out.1 HL7.out.1 HP7.out.2 HL7.out.2).mono ?_
        rintro e w8 ⟨rfl, m8, rfl⟩
        go_wp2_with fail
        refine (same_any _ _ _ us4 (us.take us4.length) (pss.take us4.length) (HQ7.out.1.below (below_same w7 m8) (Nat.le_refl _)) (HLT.out.1.below (below_same w7 m8) (Nat.le_refl _)) (HQ7.out.2.below (below_same w7 m8) (Nat.le_refl _)) (HLT.out.2.below (below_same w7 m8) (Nat.le_refl _))).mono ?_
        rintro e w9 ⟨rfl, m9, rfl⟩
        go_wp2
        go_ret
        exact ⟨rfl, below_drewN (HB1.out.trans (HB7.out.mono s1)) _⟩

set_option maxRecDepth 100000 in
theorem lifted (os : Os) (started : os.Started) (H : Type) (enc : TypeId × Value → H) :
    ReturnsInHanded {} Try.checked os 4 .any (Rows.fnFramesSpec.pre6 enc Try.prog Try.f4 Rows.fnFramesRow.domain false) (Rows.fnFramesSpec.post enc Try.prog Try.f4 false true false false) := by
  refine returnsInHanded_of_change (C := Try.checked) own started (by kernel_rfl) Try.func4
    (ChangeSpec.witness6 (enc := enc) (C := Try.checked) false ⟨#[], #[.slice none 0 0, .slice none 0 0], []⟩ 8 (by kernel_rfl) (by kernel_rfl) (by kernel_rfl) (by kernel_rfl)) ?_
  intro W base args ds gs before hval0 hW hcnd _
  have hval : ∀ (j : Nat) t v, Try.f4.params[j]? = some t → args[j]? = some v → Value.okWide Try.prog W .any base t v := hval0
  have hW' := hW
  obtain ⟨p, q, hA0, hV, rfl, hfz, hnd⟩ := hW
  have hA : DataW.TrodAll enc Try.prog W 0 (fun _ => true) true Try.f4.params.toList args.toList ds p := hA0
  rw [Try.params4] at hA hval
  obtain ⟨v0, vs0, d0, ds0, p0, q0, hargs, rfl, rfl, h0, r0⟩ := trodAll_cons hA
  obtain ⟨v1, vs1, d1, ds1, p1, q1, rfl, rfl, rfl, h1, r1⟩ := trodAll_cons r0
  obtain ⟨rfl, rfl, rfl⟩ := trodAll_nil r1
  obtain rfl : args = #[v0, v1] := by cases args; simp_all
  obtain ⟨rfl, rfl⟩ := trodVars_none hV
  obtain ⟨a0, len0, cap0, rfl⟩ := okWide_slice Try.underlying22 (hval 0 22 v0 rfl rfl)
  have k0 := h0
  have lt0 : ∀ x ∈ p0, x.block < W.heap.size := by obtain ⟨m, hm⟩ := k0; exact DataW.trod_lt m _ _ _ hm
  obtain ⟨z0, w0⟩ : ∃ zs, IsRow .u8 W a0 len0 cap0 zs := by
    obtain ⟨fuel, hf⟩ := h0
    rcases open_ints Try.underlying22 Try.underlying5 (by kernel_rfl) hf with ⟨hcs, _⟩ | ⟨x, l, c, zs, hcs, _, hl, hm, hz, _, hcell, hwz⟩
    · simp [Value.cells] at hcs
      obtain ⟨rfl, rfl, rfl⟩ := hcs
      exact ⟨[], .inl ⟨rfl, rfl, rfl, rfl⟩⟩
    · simp [Value.cells] at hcs
      obtain ⟨rfl, rfl, rfl⟩ := hcs
      exact ⟨zs, .inr ⟨_, rfl, hl, hm, by simpa using hz, hcell, hwz⟩⟩
  obtain ⟨a1, len1, cap1, rfl⟩ := okWide_slice Try.underlying22 (hval 1 22 v1 rfl rfl)
  have k1 := h1
  have lt1 : ∀ x ∈ p1, x.block < W.heap.size := by obtain ⟨m, hm⟩ := k1; exact DataW.trod_lt m _ _ _ hm
  obtain ⟨z1, w1⟩ : ∃ zs, IsRow .u8 W a1 len1 cap1 zs := by
    obtain ⟨fuel, hf⟩ := h1
    rcases open_ints Try.underlying22 Try.underlying5 (by kernel_rfl) hf with ⟨hcs, _⟩ | ⟨x, l, c, zs, hcs, _, hl, hm, hz, _, hcell, hwz⟩
    · simp [Value.cells] at hcs
      obtain ⟨rfl, rfl, rfl⟩ := hcs
      exact ⟨[], .inl ⟨rfl, rfl, rfl, rfl⟩⟩
    · simp [Value.cells] at hcs
      obtain ⟨rfl, rfl, rfl⟩ := hcs
      exact ⟨zs, .inr ⟨_, rfl, hl, hm, by simpa using hz, hcell, hwz⟩⟩
  clear hA0 hval0
  refine (walk a0 len0 cap0 z0 a1 len1 cap1 z1 W w0 w1).mono fun e W' ⟨he, bel⟩ => ?_
  subst he
  exact ⟨_, rfl, _, _, _, [], _, [], hW', trodAll_mk1 (shut_bool Try.underlying4 _), (trodAll_cons_mk (Below.trod laidOut (by kernel_rfl) (of_decide_eq_true (by kernel_rfl)) k0 bel lt0) (trodAll_cons_mk (Below.trod laidOut (by kernel_rfl) (of_decide_eq_true (by kernel_rfl)) k1 bel lt1) trodAll_mk0)), rfl, bel.frame _, fun h => by cases h⟩

theorem over : Rows.fnFramesRow.holds Try.pinned (OpenSpec.ofChange Rows.fnFramesSpec) :=
  OpenClaim.holds_of_wide 4 Try.f4 rfl rfl rfl rfl rfl rfl rfl ⟨rfl, rfl, rfl, rfl, rfl⟩ rfl rfl rfl rfl rfl (by kernel_rfl) Try.func4 (by kernel_rfl)
    (of_decide_eq_true (by kernel_rfl)) (by unfold Func.isWrapper; first | (rw [if_pos (by decide +kernel)]; kernel_rfl) | (rw [if_neg (by decide +kernel)]; exact ⟨rfl, rfl⟩))
    (fun os started H enc _ => lifted os started H enc)

/-- ████ THE STATEMENT ████ -/
theorem proved : Rows.FnFramesSaid := over
#print axioms proved
end Go.Proofs.Ytipcdioolafkpaa.fnFrames

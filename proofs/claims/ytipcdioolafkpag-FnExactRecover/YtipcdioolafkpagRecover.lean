/- FnExactRecover returns true at all bytes and leaves them as they were: impl's Recover answers as the specification's, in memory of its own; no condition. -/
import Derived.Test.YtipcdioolafkpagRecLaw
import Derived.OpenShut
import Derived.ShutString
import Derived.ChangeOld
namespace Go.Proofs.Ytipcdioolafkpag.fnExactRecover
open Go.ChangeShapes Go.WideShapes Go.ChangeAt Go.RowKit
open Go.ChangeMaps (open_string shut_string)
open Go.Proofs.Ytipcdioolafkpag.bytes Go.Proofs.Ytipcdioolafkpag.pile Go.Proofs.Ytipcdioolafkpag.put Go.Proofs.Ytipcdioolafkpag.crcs Go.Proofs.Ytipcdioolafkpag.join Go.Proofs.Ytipcdioolafkpag.frames Go.Proofs.Ytipcdioolafkpag.get Go.Proofs.Ytipcdioolafkpag.dec Go.Proofs.Ytipcdioolafkpag.take Go.Proofs.Ytipcdioolafkpag.one Go.Proofs.Ytipcdioolafkpag.votes Go.Proofs.Ytipcdioolafkpag.pays Go.Proofs.Ytipcdioolafkpag.rechelp Go.Proofs.Ytipcdioolafkpag.recrows Go.Proofs.Ytipcdioolafkpag.recmarks Go.Proofs.Ytipcdioolafkpag.walhelp Go.Proofs.Ytipcdioolafkpag.recov Go.Proofs.Ytipcdioolafkpag.recovers Go.Proofs.Ytipcdioolafkpag.recoveri Go.Proofs.Ytipcdioolafkpag.logcells Go.Proofs.Ytipcdioolafkpag.takesp Go.Proofs.Ytipcdioolafkpag.recovers2 Go.Proofs.Ytipcdioolafkpag.reclaw
set_option linter.unusedVariables false

theorem own : ownKnob Try.prog.godebug = none := by kernel_rfl
theorem laidOut : laidOutB Try.prog = true := by kernel_rfl

/-- WHAT THE WALK IS TOLD OF A SLICE OF INTEGERS THAT CAME IN: it is nil; or it leads to a row of 'cap' cells, the numbers 'zs' (the first 'len' are its elements, the rest its spare room), each fitting its kind. -/
def IsRow (k : IntKind) (w : World) (a : Option Addr) (len cap : Nat) (zs : List Int) : Prop :=
  (a = none ∧ len = 0 ∧ cap = 0 ∧ zs = []) ∨
  ∃ x, a = some x ∧ len ≤ cap ∧ cap ≤ maxLen ∧ zs.length = cap ∧ (∀ i, i < zs.length → w.cell? (x.add i) = some (.int k (zs.getD i 0))) ∧ ∀ n ∈ zs, (Lit.int k n).wf = true

theorem rd_of_row {w : World} {a : Option Addr} {len cap : Nat} {zs : List Int} (h : IsRow .u8 w a len cap zs) : ∃ xs : List Int, Rd w (.slice a len cap) xs ∧ xs.length = len := by
  rcases h with ⟨rfl, rfl, rfl, rfl⟩ | ⟨x, rfl, hl, hm, hz, hcell, hwz⟩
  · exact ⟨[], ⟨none, 0, rfl, by simp, by simp [maxLen], by simp, by simp⟩, rfl⟩
  · have hlen : (zs.take len).length = len := by simp; omega
    refine ⟨zs.take len, ⟨some x, cap, by rw [hlen], by omega, hm, ?_, fun hp => ?_⟩, hlen⟩
    · intro y hy
      have := hwz y (List.mem_of_mem_take hy)
      simpa [Lit.wf, IntKind.min, IntKind.max, IntKind.signed, IntKind.bits] using this
    · obtain ⟨b, off, spot⟩ := x
      have hc := hcell 0 (by omega)
      have hspot : spot = none := by simpa [Addr.add] using World.cell?_spot hc
      subst hspot
      refine ⟨b, off, rfl, fun i hi => ?_⟩
      have := hcell i (by omega)
      have hadd : (⟨b, off, none⟩ : Addr).add i = ⟨b, off + i, none⟩ := by
        unfold Addr.add
        split
        · rename_i h; subst h; rfl
        · rfl
      rw [hadd] at this
      rw [this]
      have hi' : i < len := by omega
      simp [List.getD_eq_getElem?_getD, hi']

theorem le_max_of {w : World} {v : Value} {xs : List Int} (h : Rd w v xs) : xs.length ≤ maxLen := by
  obtain ⟨ao, cap, _, h1, h2, _⟩ := h
  omega

set_option maxRecDepth 20000 in
set_option maxHeartbeats 4000000 in
theorem walk (a0 : Option Addr) (len0 cap0 : Nat) (z0 : List Int) (w : World) (w0 : IsRow .u8 w a0 len0 cap0 z0) :
    Calls Try.prog 7 #[.slice a0 len0 cap0] w fun e w' => e = .returned (.bool true) ∧ Below w.heap.size w w' := by
  obtain ⟨xs, HR, hlen⟩ : ∃ xs : List Int, Rd w (.slice a0 len0 cap0) xs ∧ xs.length = len0 := rd_of_row w0
  clear w0
  subst hlen
  have hm := le_max_of HR
  unfold maxLen at hm
  by_cases hbig : (1048576 : Int) < xs.length
  · go_enter Try.func7, Try.ntmps7
    go_wp2
    go_ret
    exact ⟨rfl, Below.refl _ _⟩
  have hl48 : xs.length ≤ 281474976710656 := by omega
  obtain ⟨R, hR⟩ : ∃ R, R = recA xs := ⟨_, rfl⟩
  have hok : logOK R.1 := by rw [hR]; exact recA_ok xs
  obtain ⟨a, ha⟩ : ∃ a : Wal5, a = ⟨R.1.term, R.1.vote, R.1.base, R.1.bterm, R.2.1⟩ := ⟨_, rfl⟩
  have hsum := sumTo_ok hok
  have hll := hok.1
  obtain ⟨rl, hrl⟩ : ∃ rl, rl = R.1.log := ⟨_, rfl⟩
  obtain ⟨C, hC⟩ : ∃ C, C = R.2.2 := ⟨_, rfl⟩
  have HSpec : Hid (∀ wx v, Own wx w.heap.size v xs → Calls Try.prog 29 #[v] wx fun e w' => ∃ oW nW cW us, e = .returned (.tuple #[.agg #[.int .i64 a.T, .int .i64 a.V, .int .i64 a.B, .int .i64 a.BT, .slice oW nW cW, .int .i64 a.G], .int .i64 C]) ∧ LogR w' (.slice oW nW cW) rl us ∧ Below wx.heap.size wx w') := fun wx v ho => by
    obtain ⟨o, c, rfl, _⟩ := ho.rd
    refine (specRecover wx o c xs (Own.rdA ho)).mono ?_
    rintro e w' ⟨oW, nW, cW, us, rfl, hL, hb⟩
    rw [hrl, hC, ha, hR]
    exact ⟨oW, nW, cW, us, rfl, hL, hb⟩
  have HImpl : Hid (∀ wx v B, Own wx B v xs → Calls Try.prog 31 #[v] wx fun e w' => ∃ oG cG us, e = .returned (.tuple #[.agg #[.int .i64 a.T, .int .i64 a.V, .int .i64 a.B, .int .i64 a.BT, .slice oG rl.length cG, .int .i64 a.G], .int .i64 C]) ∧ OwnRecs w' wx.heap.size (.slice oG rl.length cG) rl us ∧ Below wx.heap.size wx w') := fun wx v B ho => by
    obtain ⟨o, c, rfl, _⟩ := ho.rd
    refine (recover_any wx o c xs (Own.rdA ho)).mono ?_
    rintro e w' ⟨lv, us, rfl, hL, hb⟩
    obtain ⟨oG, cG, hlv, _⟩ := hL.row
    subst hlv
    rw [hrl, hC, ha, hR]
    exact ⟨oG, cG, us, rfl, hL, hb⟩
  rw [← hrl] at hsum hll
  clear hR hok ha hrl hC
  have hneC : (C != C) = false := by simp
  go_enter Try.func7, Try.ntmps7
  go_wp2_with fail
  refine (to_own _ _ xs hl48 (by exact HR)).mono ?_
  rintro e w1 ⟨v1, rfl, HO1, hb1⟩
  have s1 := hb1.size
  go_wp2_with fail
  refine (HSpec.out _ _ HO1).mono ?_
  rintro e w2 ⟨oW, nW, cW, usW, rfl, HLW, hb2⟩
  have s2 := hb2.size
  have bw2 : Below w.heap.size w w2 := hb1.trans (hb2.mono s1)
  obtain ⟨w2', hw2'⟩ : ∃ w2', w2' = w2.alloc (.cells #[.int .i64 a.T, .int .i64 a.V, .int .i64 a.B, .int .i64 a.BT, .slice oW nW cW, .int .i64 a.G] 50) := ⟨_, rfl⟩
  have b22 : Below w2.heap.size w2 w2' := by rw [hw2']; exact (Below.refl _ _).alloc (Nat.le_refl _) _
  have k2 : w2'.heap[w2.heap.size]? = some (.cells #[.int .i64 a.T, .int .i64 a.V, .int .i64 a.B, .int .i64 a.BT, .slice oW nW cW, .int .i64 a.G] 50 (0, 0)) := by rw [hw2']; exact heap_alloc_new w2 _
  have s22 : w2'.heap.size = w2.heap.size + 1 := by rw [hw2']; simp
  have hTo3 := to_own w2' _ xs hl48 (HR.below (bw2.trans (b22.mono (by omega))) (Nat.le_refl _))
  rw [hw2'] at hTo3
  clear HO1
  go_wp2_with fail
  refine hTo3.mono ?_
  rw [← hw2']
  rintro e w3 ⟨x0, rfl, HX, hb3⟩
  have s3 := hb3.size
  clear hTo3 hw2'
  go_wp2_with fail
  refine (HImpl.out _ _ _ HX).mono ?_
  rintro e w4 ⟨oG, cG, usG, rfl, HG, hb4⟩
  have s4 := hb4.size
  have b24 : Below w2'.heap.size w2' w4 := hb3.trans (hb4.mono s3)
  obtain ⟨w5, hw5⟩ : ∃ w5, w5 = w4.alloc (.cells #[.int .i64 a.T, .int .i64 a.V, .int .i64 a.B, .int .i64 a.BT, .slice oG rl.length cG, .int .i64 a.G] 50) := ⟨_, rfl⟩
  have b45 : Below w4.heap.size w4 w5 := by rw [hw5]; exact (Below.refl _ _).alloc (Nat.le_refl _) _
  have k5 : w5.heap[w4.heap.size]? = some (.cells #[.int .i64 a.T, .int .i64 a.V, .int .i64 a.B, .int .i64 a.BT, .slice oG rl.length cG, .int .i64 a.G] 50 (0, 0)) := by rw [hw5]; exact heap_alloc_new w4 _
  have s5 : w5.heap.size = w4.heap.size + 1 := by rw [hw5]; simp
  have b25 : Below w2'.heap.size w2' w5 := b24.trans (b45.mono (by omega))
  have HC2 : Hid (∀ wx, Below w2'.heap.size w2' wx → wx.cell? ⟨w2.heap.size, 0, none⟩ = some (.int .i64 a.T) ∧ wx.cell? ⟨w2.heap.size, 1, none⟩ = some (.int .i64 a.V) ∧ wx.cell? ⟨w2.heap.size, 2, none⟩ = some (.int .i64 a.B) ∧ wx.cell? ⟨w2.heap.size, 3, none⟩ = some (.int .i64 a.BT) ∧ wx.cell? ⟨w2.heap.size, 4, none⟩ = some (.slice oW nW cW) ∧ wx.cell? ⟨w2.heap.size, 5, none⟩ = some (.int .i64 a.G)) := fun wx hb => by
    have k := (hb.block _ (by omega)).trans k2
    exact ⟨cell_of k rfl, cell_of k rfl, cell_of k rfl, cell_of k rfl, cell_of k rfl, cell_of k rfl⟩
  have HLx : Hid (∀ wx, Below w2'.heap.size w2' wx → LogR wx (.slice oW nW cW) rl usW ∧ Below w.heap.size w wx) := fun wx hb => ⟨HLW.below (b22.trans (hb.mono (by omega))) (Nat.le_refl _), bw2.trans ((b22.trans (hb.mono (by omega))).mono (by omega))⟩
  obtain ⟨x50, x51, x52, x53, x54, x55⟩ := HC2.out w5 b25
  have hG5 : OwnRecs w5 w3.heap.size (.slice oG rl.length cG) rl usG := HG.below b45 (Nat.le_refl _)
  have hE5 := eqWal_same w5 a _ _ rl usG usW hG5.rd (HLx.out w5 b25).1.rd
  have y50 : w5.cell? ⟨w4.heap.size, 0, none⟩ = some (.int .i64 a.T) := cell_of k5 rfl
  have y51 : w5.cell? ⟨w4.heap.size, 1, none⟩ = some (.int .i64 a.V) := cell_of k5 rfl
  have y52 : w5.cell? ⟨w4.heap.size, 2, none⟩ = some (.int .i64 a.B) := cell_of k5 rfl
  have y53 : w5.cell? ⟨w4.heap.size, 3, none⟩ = some (.int .i64 a.BT) := cell_of k5 rfl
  have y54 : w5.cell? ⟨w4.heap.size, 4, none⟩ = some (.slice oG rl.length cG) := cell_of k5 rfl
  have y55 : w5.cell? ⟨w4.heap.size, 5, none⟩ = some (.int .i64 a.G) := cell_of k5 rfl
  rw [hw5] at x50 x51 x52 x53 x54 x55 y50 y51 y52 y53 y54 y55 hE5
  go_wp2_with fail
  refine hE5.mono ?_
  rw [← hw5]
  rintro e w6 ⟨rfl, b6⟩
  have s6 := b6.size
  clear hE5 hw5 x50 x51 x52 x53 x54 x55 y50 y51 y52 y53 y54 y55 hG5
  have b26 : Below w2'.heap.size w2' w6 := b25.trans (b6.mono (by omega))
  have k6 : w6.heap[w4.heap.size]? = some (.cells #[.int .i64 a.T, .int .i64 a.V, .int .i64 a.B, .int .i64 a.BT, .slice oG rl.length cG, .int .i64 a.G] 50 (0, 0)) := (b6.block _ (by omega)).trans k5
  have b46 : Below w4.heap.size w4 w6 := b45.trans (b6.mono (by omega))
  go_wp2_with fail
  refine (to_own _ _ xs hl48 (by exact HR.below (HLx.out w6 b26).2 (Nat.le_refl _))).mono ?_
  rintro e w7 ⟨v7, rfl, HO7, b7⟩
  have s7 := b7.size
  have b47 : Below w4.heap.size w4 w7 := b46.trans (b7.mono (by omega))
  have HX7 : Own w7 w2'.heap.size x0 xs := HX.below (hb4.trans (b47.mono s4)) (Nat.le_refl _)
  go_wp2_with fail
  refine (eq_same _ _ _ xs HX7.rd HO7.rd).mono ?_
  rintro e w8 ⟨rfl, n8, rfl⟩
  clear HO7
  go_wp2_with fail
  refine (mark_own _ w2'.heap.size x0 1 xs (by omega) (by omega) (by exact HX7)).mono ?_
  rintro e w9 ⟨rfl, HX9, hg9'⟩
  have hg9 : w7.grownBy w9 x0.ownBlock := ⟨hg9'.os, hg9'.tape, hg9'.output, hg9'.size, hg9'.block⟩
  have s9 := hg9.size
  have hxl : ∀ k, x0.ownBlock = some k → w2'.heap.size ≤ k ∧ k < w3.heap.size := HX.lt
  have b29 : Below w2'.heap.size w2' w9 := (b24.trans (b47.mono (by omega))).grown hg9 (by omega) (fun k hk => (hxl k hk).1)
  have hG9 : OwnRecs w9 w3.heap.size (.slice oG rl.length cG) rl usG := OwnRecs.keptRow (HG.below b47 (Nat.le_refl _)) hg9 (fun k hk => (hxl k hk).2)
  have k9 : w9.heap[w4.heap.size]? = some (.cells #[.int .i64 a.T, .int .i64 a.V, .int .i64 a.B, .int .i64 a.BT, .slice oG rl.length cG, .int .i64 a.G] 50 (0, 0)) := (hg9.block _ (by omega) (fun e => by have := (hxl _ e.symm).2; omega)).trans ((b7.block _ (by omega)).trans k6)
  clear hg9' HX9 HX7
  obtain ⟨x90, x91, x92, x93, x94, x95⟩ := HC2.out w9 b29
  have hE9 := eqWal_same w9 a _ _ rl usG usW hG9.rd (HLx.out w9 b29).1.rd
  have HC9 : Hid (∀ wx : World, wx.heap[w4.heap.size]? = some (.cells #[.int .i64 a.T, .int .i64 a.V, .int .i64 a.B, .int .i64 a.BT, .slice oG rl.length cG, .int .i64 a.G] 50 (0, 0)) → wx.cell? ⟨w4.heap.size, 0, none⟩ = some (.int .i64 a.T) ∧ wx.cell? ⟨w4.heap.size, 1, none⟩ = some (.int .i64 a.V) ∧ wx.cell? ⟨w4.heap.size, 2, none⟩ = some (.int .i64 a.B) ∧ wx.cell? ⟨w4.heap.size, 3, none⟩ = some (.int .i64 a.BT) ∧ wx.cell? ⟨w4.heap.size, 4, none⟩ = some (.slice oG rl.length cG) ∧ wx.cell? ⟨w4.heap.size, 5, none⟩ = some (.int .i64 a.G)) := fun wx k => ⟨cell_of k rfl, cell_of k rfl, cell_of k rfl, cell_of k rfl, cell_of k rfl, cell_of k rfl⟩
  obtain ⟨y90, y91, y92, y93, y94, y95⟩ := HC9.out w9 k9
  have hk1 : ¬ (1 : Int) + xs.length < 0 := by omega
  go_wp2_with fail
  refine hE9.mono ?_
  rintro e w10 ⟨rfl, b10⟩
  have s10 := b10.size
  clear x90 x91 x92 x93 x94 x95 y90 y91 y92 y93 y94 y95 hE9
  have k10 : w10.heap[w4.heap.size]? = some (.cells #[.int .i64 a.T, .int .i64 a.V, .int .i64 a.B, .int .i64 a.BT, .slice oG rl.length cG, .int .i64 a.G] 50 (0, 0)) := (b10.block _ (by omega)).trans k9
  have b210 : Below w2'.heap.size w2' w10 := b29.trans (b10.mono (by omega))
  have hG10 : OwnRecs w10 w3.heap.size (.slice oG rl.length cG) rl usG := hG9.below b10 (Nat.le_refl _)
  have hmq : mAt 1 rl rl.length ≤ 4611686018427387904 := by unfold mAt; omega
  have hM0 : 0 ≤ mAt 1 rl rl.length := by unfold mAt; omega
  have hMk := mark_both w10 w3.heap.size w4.heap.size a _ rl usG hG10 hmq (fun u hu k hp hk => (recs_lt HG hp u hu k hk).2) (by omega)
  have HHd : Hid (∀ wx, RdRecs wx (.slice oG rl.length cG) (mkL 1 rl rl.length) usG → Calls Try.prog 34 #[.agg #[.int .i64 a.T, .int .i64 a.V, .int .i64 a.B, .int .i64 a.BT, .slice oG rl.length cG, .int .i64 a.G], .int .i64 1] wx fun e w' => e = .returned (.int .i64 (mAt 1 rl rl.length)) ∧ Below wx.heap.size wx w') := fun wx h => heldWal_same wx a _ rl usG 1 (by omega) hmq h
  generalize hML : mkL 1 rl rl.length = ML at hMk HHd
  generalize mAt 1 rl rl.length = M at hMk hM0 HHd
  clear hmq hML
  obtain ⟨y100, y101, y102, y103, y104, y105⟩ := HC9.out w10 k10
  go_wp2_with fail
  refine hMk.mono ?_
  rintro e w11 ⟨rfl, hG11, b11, hi11⟩
  have s11 := b11.size
  clear hMk y100 y101 y102 y103 y104 y105 hG10
  have k11 : w11.heap[w4.heap.size]? = some (.cells #[.int .i64 a.T, .int .i64 a.V, .int .i64 a.B, .int .i64 a.BT, .slice oG rl.length cG, .int .i64 a.G] 50 (0, 0)) := (hi11 _ (Nat.le_refl _) (by omega)).trans k10
  have b211 : Below w2'.heap.size w2' w11 := b210.trans (b11.mono (by omega))
  obtain ⟨y110, y111, y112, y113, y114, y115⟩ := HC9.out w11 k11
  have hnM : ¬ M < 0 := by omega
  have hneM : (M != M) = false := by simp
  go_wp2_with fail
  refine (HHd.out w11 hG11.rd).mono ?_
  rintro e w12 ⟨rfl, b12⟩
  have s12 := b12.size
  clear y110 y111 y112 y113 y114 y115
  have b212 : Below w2'.heap.size w2' w12 := b211.trans (b12.mono (by omega))
  go_wp2_with fail
  refine (to_own _ _ xs hl48 (by exact HR.below (HLx.out w12 b212).2 (Nat.le_refl _))).mono ?_
  rintro e w13 ⟨v13, rfl, HO13, b13⟩
  have s13 := b13.size
  go_wp2_with fail
  refine (HImpl.out _ _ _ HO13).mono ?_
  rintro e w14 ⟨oH, cH, usH, rfl, HH, b14⟩
  have s14 := b14.size
  clear HO13
  obtain ⟨w15, hw15⟩ : ∃ w15, w15 = w14.alloc (.cells #[.int .i64 a.T, .int .i64 a.V, .int .i64 a.B, .int .i64 a.BT, .slice oH rl.length cH, .int .i64 a.G] 50) := ⟨_, rfl⟩
  have b1415 : Below w14.heap.size w14 w15 := by rw [hw15]; exact (Below.refl _ _).alloc (Nat.le_refl _) _
  have k15 : w15.heap[w14.heap.size]? = some (.cells #[.int .i64 a.T, .int .i64 a.V, .int .i64 a.B, .int .i64 a.BT, .slice oH rl.length cH, .int .i64 a.G] 50 (0, 0)) := by rw [hw15]; exact heap_alloc_new w14 _
  have s15 : w15.heap.size = w14.heap.size + 1 := by rw [hw15]; simp
  have b1115 : Below w11.heap.size w11 w15 := (b12.trans (b13.mono s12)).trans ((b14.mono (by omega)).trans (b1415.mono (by omega)))
  have b215 : Below w2'.heap.size w2' w15 := b211.trans (b1115.mono (by omega))
  obtain ⟨x150, x151, x152, x153, x154, x155⟩ := HC2.out w15 b215
  have y150 : w15.cell? ⟨w14.heap.size, 0, none⟩ = some (.int .i64 a.T) := cell_of k15 rfl
  have y151 : w15.cell? ⟨w14.heap.size, 1, none⟩ = some (.int .i64 a.V) := cell_of k15 rfl
  have y152 : w15.cell? ⟨w14.heap.size, 2, none⟩ = some (.int .i64 a.B) := cell_of k15 rfl
  have y153 : w15.cell? ⟨w14.heap.size, 3, none⟩ = some (.int .i64 a.BT) := cell_of k15 rfl
  have y154 : w15.cell? ⟨w14.heap.size, 4, none⟩ = some (.slice oH rl.length cH) := cell_of k15 rfl
  have y155 : w15.cell? ⟨w14.heap.size, 5, none⟩ = some (.int .i64 a.G) := cell_of k15 rfl
  have hE15 := eqWal_same w15 a _ _ rl usH usW (HH.below b1415 (Nat.le_refl _)).rd (HLx.out w15 b215).1.rd
  rw [hw15] at x150 x151 x152 x153 x154 x155 y150 y151 y152 y153 y154 y155 hE15
  go_wp2_with fail
  refine hE15.mono ?_
  rw [← hw15]
  rintro e w16 ⟨rfl, b16⟩
  have s16 := b16.size
  clear hE15 hw15 x150 x151 x152 x153 x154 x155 y150 y151 y152 y153 y154 y155
  have b1116 : Below w11.heap.size w11 w16 := b1115.trans (b16.mono (by omega))
  have k16 : w16.heap[w4.heap.size]? = some (.cells #[.int .i64 a.T, .int .i64 a.V, .int .i64 a.B, .int .i64 a.BT, .slice oG rl.length cG, .int .i64 a.G] 50 (0, 0)) := (b1116.block _ (by omega)).trans k11
  obtain ⟨y160, y161, y162, y163, y164, y165⟩ := HC9.out w16 k16
  go_wp2_with fail
  refine (HHd.out w16 (hG11.below b1116 (Nat.le_refl _)).rd).mono ?_
  rintro e w17 ⟨rfl, b17⟩
  have bfin : Below w.heap.size w w17 := (HLx.out w17 (b211.trans ((b1116.trans (b17.mono b1116.size)).mono (by omega)))).2
  go_wp2
  go_ret
  exact ⟨rfl, bfin⟩

set_option maxRecDepth 100000 in
theorem lifted (os : Os) (started : os.Started) (H : Type) (enc : TypeId × Value → H) :
    ReturnsInHanded {} Try.checked os 7 .any (Rows.fnExactRecoverSpec.pre6 enc Try.prog Try.f7 Rows.fnExactRecoverRow.domain false) (Rows.fnExactRecoverSpec.post enc Try.prog Try.f7 false true false false) := by
  refine returnsInHanded_of_change (C := Try.checked) own started (by kernel_rfl) Try.func7
    (ChangeSpec.witness6 (enc := enc) (C := Try.checked) false ⟨#[], #[.slice none 0 0], []⟩ 8 (by kernel_rfl) (by kernel_rfl) (by kernel_rfl) (by kernel_rfl)) ?_
  intro W base args ds gs before hval0 hW hcnd _
  have hval : ∀ (j : Nat) t v, Try.f7.params[j]? = some t → args[j]? = some v → Value.okWide Try.prog W .any base t v := hval0
  have hW' := hW
  obtain ⟨p, q, hA0, hV, rfl, hfz, hnd⟩ := hW
  have hA : DataW.TrodAll enc Try.prog W 0 (fun _ => true) true Try.f7.params.toList args.toList ds p := hA0
  rw [Try.params7] at hA hval
  obtain ⟨v0, vs0, d0, ds0, p0, q0, hargs, rfl, rfl, h0, r0⟩ := trodAll_cons hA
  obtain ⟨rfl, rfl, rfl⟩ := trodAll_nil r0
  obtain rfl : args = #[v0] := by cases args; simp_all
  obtain ⟨rfl, rfl⟩ := trodVars_none hV
  obtain ⟨a0, len0, cap0, rfl⟩ := okWide_slice Try.underlying22 (hval 0 22 v0 rfl rfl)
  have k0 := h0
  have lt0 : ∀ x ∈ p0, x.block < W.heap.size := by obtain ⟨m, hm⟩ := k0; exact DataW.trod_lt m _ _ _ hm
  obtain ⟨z0, w0⟩ : ∃ zs, IsRow .u8 W a0 len0 cap0 zs := by
    obtain ⟨fuel, hf⟩ := h0
    rcases open_ints Try.underlying22 Try.underlying5 (by kernel_rfl) hf with ⟨hcs, _⟩ | ⟨x, l, c, zs, hcs, _, hl, hm, hz, _, hcell, hwz⟩
    · simp [Value.cells] at hcs
      obtain ⟨rfl, rfl, rfl⟩ := hcs
      exact ⟨[], .inl ⟨rfl, rfl, rfl, rfl⟩⟩
    · simp [Value.cells] at hcs
      obtain ⟨rfl, rfl, rfl⟩ := hcs
      exact ⟨zs, .inr ⟨_, rfl, hl, hm, by simpa using hz, hcell, hwz⟩⟩
  clear hA0 hval0
  refine (walk a0 len0 cap0 z0 W w0).mono fun e W' ⟨he, bel⟩ => ?_
  subst he
  exact ⟨_, rfl, _, _, _, [], _, [], hW', trodAll_mk1 (shut_bool Try.underlying4 _), (trodAll_cons_mk (Below.trod laidOut (by kernel_rfl) (of_decide_eq_true (by kernel_rfl)) k0 bel lt0) trodAll_mk0), rfl, bel.frame _, fun h => by cases h⟩

theorem over : Rows.fnExactRecoverRow.holds Try.pinned (OpenSpec.ofChange Rows.fnExactRecoverSpec) :=
  OpenClaim.holds_of_wide 7 Try.f7 rfl rfl rfl rfl rfl rfl rfl ⟨rfl, rfl, rfl, rfl, rfl⟩ rfl rfl rfl rfl rfl (by kernel_rfl) Try.func7 (by kernel_rfl)
    (of_decide_eq_true (by kernel_rfl)) (by unfold Func.isWrapper; first | (rw [if_pos (by decide +kernel)]; kernel_rfl) | (rw [if_neg (by decide +kernel)]; exact ⟨rfl, rfl⟩))
    (fun os started H enc _ => lifted os started H enc)

/-- ████ THE STATEMENT ████ -/
theorem proved : Rows.FnExactRecoverSaid := over
#print axioms proved
end Go.Proofs.Ytipcdioolafkpag.fnExactRecover

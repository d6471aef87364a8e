/- Records are drawn: what the loop answers. -/
import Derived.Test.YtipcdioolafkpaaRecsDef
import Derived.Test.YtipcdioolafkpaaRecsW
import Derived.Test.YtipcdioolafkpaaTakeSpL
import Derived.Test.YtipcdioolafkpaaSpecs
import Derived.Test.YtipcdioolafkpaaParts
namespace Go.Proofs.Ytipcdioolafkpaa.recsdraw
open Go.ChangeShapes Go.WideShapes Go.ChangeAt Go.RowKit
open Go.Proofs.Ytipcdioolafkpaa.bytes Go.Proofs.Ytipcdioolafkpaa.put Go.Proofs.Ytipcdioolafkpaa.pile Go.Proofs.Ytipcdioolafkpaa.join Go.Proofs.Ytipcdioolafkpaa.frames Go.Proofs.Ytipcdioolafkpaa.reader Go.Proofs.Ytipcdioolafkpaa.one Go.Proofs.Ytipcdioolafkpaa.many Go.Proofs.Ytipcdioolafkpaa.draws Go.Proofs.Ytipcdioolafkpaa.payloads Go.Proofs.Ytipcdioolafkpaa.bytefn
open Go.Proofs.Ytipcdioolafkpaa.back Go.Proofs.Ytipcdioolafkpaa.parts Go.Proofs.Ytipcdioolafkpaa.drawsfn Go.Proofs.Ytipcdioolafkpaa.drawsex Go.Proofs.Ytipcdioolafkpaa.recrows Go.Proofs.Ytipcdioolafkpaa.rechelp Go.Proofs.Ytipcdioolafkpaa.pays Go.Proofs.Ytipcdioolafkpaa.recov Go.Proofs.Ytipcdioolafkpaa.fits Go.Proofs.Ytipcdioolafkpaa.goesalong Go.Proofs.Ytipcdioolafkpaa.logcells Go.Proofs.Ytipcdioolafkpaa.lowc Go.Proofs.Ytipcdioolafkpaa.recoveri Go.Proofs.Ytipcdioolafkpaa.specs Go.Proofs.Ytipcdioolafkpaa.recs Go.Proofs.Ytipcdioolafkpaa.spect Go.Proofs.Ytipcdioolafkpaa.takespl Go.Proofs.Ytipcdioolafkpaa.recsw Go.Proofs.Ytipcdioolafkpaa.recsdef
set_option linter.unusedVariables false

theorem put_one {n : Nat} (h : n < 128) : (putN n).length = 1 := by rw [putN_lt h]; simp
theorem frame_len40 {xs : List Int} (h : xs.length ≤ 40) : (frameN xs).length ≤ 45 := by
  rw [frameN_length, put_one (by omega)]
  omega
theorem wpList_append_lies22 (w : World) {ops : Array Oper} {rest : List Oper} {o : Oper} {a : Act} {Q : Exit → Act → World → Prop} (hgd : o.guard = none) (s x : Operand)
    (ho : o.op = .call { callee := .builtin .append, args := #[s, x], argTypes := #[29, 29] })
    (base : Nat) (v : Value) (n : Nat) (xs : List Value) (hs : a.eval s = v) (hown : w.ownsRow base 22 1 v n xs)
    (ad : Addr) (m c : Nat) (news : List Value) (hx : a.eval x = .slice (some ad) m c) (hl : news.length = m * 1) (hnews : ∀ j u, news[j]? = some u → w.cell? (ad.add j) = some u) (h1 : ∀ u ∈ news, u.oneCell' = true)
    (hm : 0 < m) (h63 : n + m ≤ 1000) (hbase : base ≤ w.heap.size)
    (h : ∀ g cap w', w'.ownsRow base 22 1 (.slice (some ⟨g, 0, none⟩) (n + m) cap) (n + m) (xs ++ news) → w.grownBy w' v.ownBlock → (v.ownBlock = some g ∨ g = w.heap.size) → g < w'.heap.size → wpList Try.prog ops Q rest (a.put o.dst (.slice (some ⟨g, 0, none⟩) (n + m) cap)) w') : wpList Try.prog ops Q (o :: rest) a w := by
  obtain ⟨i0, hi, hz0, hz1, hz2⟩ := info_parts info22
  exact wpList_append_lies w hgd s x 29 ho base 22 i0 (.slice none 0 0) 1 24 Try.underlying29 hi hz0 hz1 hz2 rfl (by decide) v n xs hs hown ad m c news hx hl hnews h1 hm (by unfold maxLen; omega) (by omega) hbase _ rfl h

/-- The loop's state, with a bound of what was drawn. -/
def Q (w : World) (d : Nat) (ao : Option Addr) (cap : Nat) (xs : List Int) (s : St) (lv : Value) (us : List Value) (v : Value) (vs : List Value) (ps : List (List Int)) (m : Nat) (wx : World) : Prop := ∃ a' sd', a' ≤ m ∧ RD w wx d w.heap.size ao cap xs s lv us v vs ps a' sd'
def KeepO (w wx w' : World) : Prop := ∀ v ys, Own wx (w.heap.size + 1) v ys → Own w' (w.heap.size + 1) v ys
theorem keepO_draw {w wx w' : World} {d : Nat} (hd : d < w.heap.size) (hg : wx.grownBy w' (some d)) : KeepO w wx w' := fun v ys ho => fits.own_keptR ho hg (fun j hj e => by simp only [Option.some.injEq] at e; have := (ho.lt j hj).1; omega)
/-- What is drawn. -/
def RecE (w : World) (d : Nat) (e : Ending) (w' : World) : Prop := ∃ (o : Option Addr) (n c : Nat) (vs : List Value) (ps : List (List Int)), e = .returned (.slice o n c) ∧ w'.ownsRow (w.heap.size + 1) 22 1 (.slice o n c) vs.length vs ∧ (∀ i, i < vs.length → Own w' (w.heap.size + 1) (vs.getD i (.slice none 0 0)) ((ps.map frameN).getD i [])) ∧ vs.length = ps.length ∧ ps.length ≤ 13 ∧ (∀ p ∈ ps, p.length ≤ 40) ∧ w.grownBy w' (some d)
set_option maxRecDepth 20000 in
set_option maxHeartbeats 16000000 in
theorem records_any (w : World) (d : Nat) (ao : Option Addr) (cap : Nat) (xs : List Int) (sd : Int) (h : SS w d ao cap xs 0 sd) :
    Calls Try.prog 52 #[.pointer (some ⟨d, 0, none⟩)] w (RecE w d) := by
  have HX : Hid (0 < xs.length → ∀ x, ao = some x → x.block < w.heap.size) := rd_lt h.data
  have hd := h.lt
  obtain ⟨W2, hW2⟩ : ∃ W2, W2 = (w.alloc (.cells #[.int .i64 0, .int .i64 0, .int .i64 0, .int .i64 0, .slice none 0 0, .int .i64 0] 52)).alloc (.cells #[] 22) := ⟨_, rfl⟩
  have hba : Below w.heap.size w W2 := by rw [hW2]; exact ((Below.refl _ _).alloc (Nat.le_refl _) _).alloc (by simp) _
  have D0 : Hid (RD w W2 d w.heap.size ao cap xs zSt (.slice none 0 0) [] (.slice (some ⟨w.heap.size + 1, 0, none⟩) 0 0) [] [] 0 sd) := by
    refine hide ⟨h.below hba, ?_, ⟨(OwnRecs.none _ 0 _).rd, fun n c e => by simp only [Value.slice.injEq, true_and] at e; omega⟩, ⟨by simp [Value.ownBlock], by simp⟩, ⟨by simp [Value.ownBlock], by simp⟩, ⟨by simp [Value.ownBlock], by simp⟩, fun g _ => ⟨by simp [Value.ownBlock], by simp⟩, ?_, fun i hi => by simp at hi, rfl, ⟨⟨⟨by decide, by decide⟩, by decide, by decide⟩, ⟨by decide, by decide⟩, by simp [zSt], by simp [zSt]⟩, by simp, grown_below hba (Nat.le_refl _) _, hd, Nat.le_refl _, HX.out⟩
    · rw [hW2, Below.heap_alloc _ _ _ (by simp)]; exact heap_alloc_new w _
    · have hr := World.ownsRow_lit (base := w.heap.size + 1) (e := 22) (size := 1) (w.alloc (.cells #[.int .i64 0, .int .i64 0, .int .i64 0, .int .i64 0, .slice none 0 0, .int .i64 0] 52)) #[] 0 (by simp) (by simp [maxLen]) (by simp)
      rw [hW2]
      simpa using hr
  have HB := size_gr W2 d ao cap xs 0 sd D0.out.ss 12 ⟨by omega, by omega⟩
  rw [hW2] at HB
  clear h hba
  go_enter Try.func52, Try.ntmps52
  go_wp2_with fail
  refine HB.mono ?_
  rw [← hW2]
  rintro e w1 ⟨q, rfl, q1, q12, m, rfl⟩
  have D1 := hide (D0.out.below (w2 := W2.drewN m) ⟨rfl, rfl, rfl, Nat.le_refl _, fun _ _ => rfl⟩)
  have HB2 := hide (next_gr _ d ao cap xs 0 sd (q + 2) (by omega) D1.out.ss (by omega))
  clear HB hW2 D0
  go_wp2_with fail
  refine HB2.out.mono ?_
  rintro e w2 ⟨R, rfl, ⟨r0, r1⟩, a2, sd2, ha2, S2, K2⟩
  have D2 := hide (D1.out.draw K2 S2)
  obtain ⟨R, rfl⟩ := Int.eq_ofNat_of_zero_le r0
  have hR : R ≤ 13 := by omega
  clear D1 HB2 S2 K2 r0 r1
  go_wp2
  go_loopw [4, 5] (fun v i wr => ∃ (k : Nat) (s : St) (lo : Option Addr) (lc : Nat) (us : List Value) (vs : List Value) (ps : List (List Int)) (a : Nat) (sd' : Int), i = .int .i64 k ∧ k + vs.length ≤ 13 ∧ a + 30 * k ≤ 500 ∧ Hid (RD w wr d w.heap.size ao cap xs s (.slice lo s.log.length lc) us v vs ps a sd')) (fun _ i _ => (intOf i).toNat)
  case atStart => exact ⟨R, zSt, none, 0, [], [], [], a2, sd2, rfl, by simpa using hR, by omega, D2⟩
  case round =>
    obtain ⟨k, s, lo, lc, us, vs, ps, a, sd', rfl, hk, ha, HR⟩ := hrel
    clear D2
    by_cases hk0 : (0 : Int) < k
    · obtain ⟨k', rfl⟩ : ∃ k', k = k' + 1 := ⟨k - 1, by omega⟩
      obtain ⟨⟨c0, c1, c2, c3, c4, c5⟩, fz⟩ := HR.out.cells
      have hsok := HR.out.sok
      obtain ⟨⟨hst, hsb⟩, hsba, hsl, _⟩ := hsok
      unfold termIn at hst hsb
      have hlc := HR.out.log.rd.row
      obtain ⟨_, _, elc, hlc1, hlc2, _⟩ := hlc
      simp only [Value.slice.injEq, true_and] at elc
      obtain ⟨rfl, rfl⟩ := elc
      unfold maxLen at hlc2
      have HNx : Hid (∀ (wx : World) (m : Nat) (n : Int), m ≤ 100000 → n ≤ 256 → Hid (Q w d ao cap xs s (.slice lo s.log.length lc) us u4 vs ps (m) wx) → Calls Try.prog 37 #[.pointer (some ⟨d, 0, none⟩), .int .i64 n] wx fun e w' => ∃ r : Int, e = .returned (.int .i64 r) ∧ (0 ≤ r ∧ (r < n ∨ (n ≤ 1 ∧ r = 0))) ∧ Hid (Q w d ao cap xs s (.slice lo s.log.length lc) us u4 vs ps (m + 1) w') ∧ Hid (KeepO w wx w') ∧ w'.cell? ⟨w.heap.size, 0, none⟩ = some (.int .i64 s.term) ∧ w'.cell? ⟨w.heap.size, 2, none⟩ = some (.int .i64 s.base) ∧ w'.cell? ⟨w.heap.size, 4, none⟩ = some (.slice lo s.log.length lc)) := fun wx m n hm hn H => by
        obtain ⟨a1, sd1, ha1, D⟩ := H.out
        refine (next_gr wx d ao cap xs a1 sd1 n hn D.ss (by omega)).mono ?_
        rintro e w' ⟨r, rfl, hb, a2, sd2, ha2, S2, K2⟩
        have D2 := D.draw K2 S2
        exact ⟨r, rfl, hb, hide ⟨a2, sd2, by omega, D2⟩, hide (keepO_draw D.dB K2), D2.cells.1.1, D2.cells.1.2.2.1, D2.cells.1.2.2.2.2.1⟩
      have HBy : Hid (∀ (wx : World) (m n : Nat), m ≤ 100000 → n ≤ 200 → Hid (Q w d ao cap xs s (.slice lo s.log.length lc) us u4 vs ps (m) wx) → Calls Try.prog 39 #[.pointer (some ⟨d, 0, none⟩), .int .i64 n] wx fun e w' => ∃ o c ys, e = .returned (.slice o ys.length c) ∧ Hid (Own w' (w.heap.size + 1) (.slice o ys.length c) ys) ∧ ys.length ≤ n ∧ Hid (Q w d ao cap xs s (.slice lo s.log.length lc) us u4 vs ps (m + n + 1) w') ∧ w'.cell? ⟨w.heap.size, 0, none⟩ = some (.int .i64 s.term) ∧ w'.cell? ⟨w.heap.size, 2, none⟩ = some (.int .i64 s.base) ∧ w'.cell? ⟨w.heap.size, 4, none⟩ = some (.slice lo s.log.length lc)) := fun wx m n hm hn H => by
        obtain ⟨a1, sd1, ha1, D⟩ := H.out
        refine (bytes_gr wx d ao cap xs a1 sd1 n hn D.ss (by omega)).mono ?_
        rintro e w' ⟨v, rfl, ys, a2, sd2, O2, hy, ha2, S2, K2⟩
        have D2 := D.draw K2 S2
        obtain ⟨o, c, e, _⟩ := O2.rd
        subst e
        exact ⟨o, c, ys, rfl, hide (O2.mono D.lt), hy, hide ⟨a2, sd2, by omega, D2⟩, D2.cells.1.1, D2.cells.1.2.2.1, D2.cells.1.2.2.2.2.1⟩
      have HFr : Hid (∀ (wx : World) (m : Nat) (f : Nat) (args : Array Value) (Pp : List Int), Pp.length ≤ 40 → Hid (Q w d ao cap xs s (.slice lo s.log.length lc) us u4 vs ps (m) wx) → (Calls Try.prog f args wx fun e w' => ∃ v, e = .returned v ∧ Own w' wx.heap.size v (frameN Pp) ∧ Below wx.heap.size wx w') → Calls Try.prog f args wx fun e w' => ∃ o n c, e = .returned (.slice o n c) ∧ Hid (Own w' (w.heap.size + 1) (.slice o n c) (frameN Pp) ∧ Pp.length ≤ 40) ∧ Hid (Q w d ao cap xs s (.slice lo s.log.length lc) us u4 vs ps (m) w') ∧ w'.cell? ⟨w.heap.size, 0, none⟩ = some (.int .i64 s.term) ∧ w'.cell? ⟨w.heap.size, 2, none⟩ = some (.int .i64 s.base) ∧ w'.cell? ⟨w.heap.size, 4, none⟩ = some (.slice lo s.log.length lc)) := fun wx m f args Pp hP H hC => by
        obtain ⟨a1, sd1, ha1, D⟩ := H.out
        refine hC.mono ?_
        rintro e w' ⟨v, rfl, O2, b2⟩
        have D2 := D.below b2
        obtain ⟨o, c, e, _⟩ := O2.rd
        subst e
        exact ⟨o, _, c, rfl, hide ⟨O2.mono D.lt, hP⟩, hide ⟨a1, sd1, ha1, D2⟩, D2.cells.1.1, D2.cells.1.2.2.1, D2.cells.1.2.2.2.2.1⟩
      have HV : Hid (∀ (wx : World) (m : Nat) (T V : Int), 0 ≤ T → T ≤ 2000000 → 0 ≤ V → V ≤ 2000000 → Hid (Q w d ao cap xs s (.slice lo s.log.length lc) us u4 vs ps (m) wx) → Calls Try.prog 72 #[.int .i64 T, .int .i64 V] wx fun e w' => ∃ o n c Pp, e = .returned (.slice o n c) ∧ Hid (Own w' (w.heap.size + 1) (.slice o n c) (frameN Pp) ∧ Pp.length ≤ 40) ∧ Hid (Q w d ao cap xs s (.slice lo s.log.length lc) us u4 vs ps (m) w') ∧ w'.cell? ⟨w.heap.size, 0, none⟩ = some (.int .i64 s.term) ∧ w'.cell? ⟨w.heap.size, 2, none⟩ = some (.int .i64 s.base) ∧ w'.cell? ⟨w.heap.size, 4, none⟩ = some (.slice lo s.log.length lc)) := fun wx m T V h1 h2 h3 h4 H => by
        obtain ⟨T, rfl⟩ := Int.eq_ofNat_of_zero_le h1
        obtain ⟨V, rfl⟩ := Int.eq_ofNat_of_zero_le h3
        have hpl := pay_lenW T V (by omega) (by omega)
        refine (HFr.out wx m _ _ (1 :: (putN T ++ putN V)) (by simp; omega) H (recsw.Vote_spec wx T V (by omega) (by omega))).mono ?_
        rintro e w' ⟨o, n, c, h5, h6⟩
        exact ⟨o, n, c, _, h5, h6⟩
      have HBs : Hid (∀ (wx : World) (m : Nat) (T V : Int), 0 ≤ T → T ≤ 2000000 → 0 ≤ V → V ≤ 2000000 → Hid (Q w d ao cap xs s (.slice lo s.log.length lc) us u4 vs ps (m) wx) → Calls Try.prog 74 #[.int .i64 T, .int .i64 V] wx fun e w' => ∃ o n c Pp, e = .returned (.slice o n c) ∧ Hid (Own w' (w.heap.size + 1) (.slice o n c) (frameN Pp) ∧ Pp.length ≤ 40) ∧ Hid (Q w d ao cap xs s (.slice lo s.log.length lc) us u4 vs ps (m) w') ∧ w'.cell? ⟨w.heap.size, 0, none⟩ = some (.int .i64 s.term) ∧ w'.cell? ⟨w.heap.size, 2, none⟩ = some (.int .i64 s.base) ∧ w'.cell? ⟨w.heap.size, 4, none⟩ = some (.slice lo s.log.length lc)) := fun wx m T V h1 h2 h3 h4 H => by
        obtain ⟨T, rfl⟩ := Int.eq_ofNat_of_zero_le h1
        obtain ⟨V, rfl⟩ := Int.eq_ofNat_of_zero_le h3
        have hpl := pay_lenW T V (by omega) (by omega)
        refine (HFr.out wx m _ _ (3 :: (putN T ++ putN V)) (by simp; omega) H (recsw.Base_spec wx T V (by omega) (by omega))).mono ?_
        rintro e w' ⟨o, n, c, h5, h6⟩
        exact ⟨o, n, c, _, h5, h6⟩
      have HEn : Hid (∀ (wx : World) (m : Nat) (T V : Int) (o : Option Addr) (c : Nat) (ys : List Int), 0 ≤ T → T ≤ 2000000 → 0 ≤ V → V ≤ 2000000 → ys.length ≤ 5 → Hid (Own wx (w.heap.size + 1) (.slice o ys.length c) ys) → Hid (Q w d ao cap xs s (.slice lo s.log.length lc) us u4 vs ps (m) wx) → Calls Try.prog 73 #[.agg #[.int .i64 T, .int .i64 V, .slice o ys.length c]] wx fun e w' => ∃ o n c Pp, e = .returned (.slice o n c) ∧ Hid (Own w' (w.heap.size + 1) (.slice o n c) (frameN Pp) ∧ Pp.length ≤ 40) ∧ Hid (Q w d ao cap xs s (.slice lo s.log.length lc) us u4 vs ps (m) w') ∧ w'.cell? ⟨w.heap.size, 0, none⟩ = some (.int .i64 s.term) ∧ w'.cell? ⟨w.heap.size, 2, none⟩ = some (.int .i64 s.base) ∧ w'.cell? ⟨w.heap.size, 4, none⟩ = some (.slice lo s.log.length lc)) := fun wx m T V o c ys h1 h2 h3 h4 hy ho H => by
        obtain ⟨T, rfl⟩ := Int.eq_ofNat_of_zero_le h1
        obtain ⟨V, rfl⟩ := Int.eq_ofNat_of_zero_le h3
        have hpl := pay_lenW T V (by omega) (by omega)
        refine (HFr.out wx m _ _ (2 :: (putN T ++ (putN V ++ ys))) (by simp; omega) H (recsw.entry_spec wx T V _ ys (by omega) (by omega) (Own.rdA ho.out) (by omega))).mono ?_
        rintro e w' ⟨o, n, c, h5, h6⟩
        exact ⟨o, n, c, _, h5, h6⟩
      have HCh : Hid (∀ (wx : World) (m : Nat), m ≤ 100000 → Hid (Q w d ao cap xs s (.slice lo s.log.length lc) us u4 vs ps (m) wx) → Calls Try.prog 76 #[.pointer (some ⟨d, 0, none⟩), .int .i64 4] wx fun e w' => ∃ b : Bool, e = .returned (.bool b) ∧ Hid (Q w d ao cap xs s (.slice lo s.log.length lc) us u4 vs ps (m + 1) w') ∧ Hid (KeepO w wx w') ∧ w'.cell? ⟨w.heap.size, 0, none⟩ = some (.int .i64 s.term) ∧ w'.cell? ⟨w.heap.size, 2, none⟩ = some (.int .i64 s.base) ∧ w'.cell? ⟨w.heap.size, 4, none⟩ = some (.slice lo s.log.length lc)) := fun wx m hm H => by
        obtain ⟨a1, sd1, ha1, D⟩ := H.out
        refine (chance_gr wx d ao cap xs a1 sd1 4 ⟨by omega, by omega⟩ D.ss (by omega)).mono ?_
        rintro e w' ⟨b, rfl, a2, sd2, ha2, S2, K2⟩
        have D2 := D.draw K2 S2
        exact ⟨b, rfl, hide ⟨a2, sd2, by omega, D2⟩, hide (keepO_draw D.dB K2), D2.cells.1.1, D2.cells.1.2.2.1, D2.cells.1.2.2.2.2.1⟩
      have HTm : Hid (∀ (wx : World) (m : Nat) (x : Int), s.base ≤ x → x ≤ s.base + s.log.length → Hid (Q w d ao cap xs s (.slice lo s.log.length lc) us u4 vs ps (m) wx) → Calls Try.prog 75 #[.agg #[.int .i64 s.term, .int .i64 s.vote, .int .i64 s.base, .int .i64 s.bterm, (.slice lo s.log.length lc), .int .i64 0], .int .i64 x] wx fun e w' => ∃ tb : Int, e = .returned (.int .i64 tb) ∧ (0 ≤ tb ∧ tb ≤ 1000000) ∧ Hid (Q w d ao cap xs s (.slice lo s.log.length lc) us u4 vs ps (m) w')) := fun wx m x h1 h2 H => by
        obtain ⟨a1, sd1, ha1, D⟩ := H.out
        have hC := termAt_any wx s (.slice lo s.log.length lc) us 0 D.log.rd (x - s.base).toNat (by omega) (by omega) hsba x (by omega)
        unfold walV at hC
        refine hC.mono ?_
        rintro e w' ⟨rfl, b2⟩
        exact ⟨_, rfl, termB_in D.sok (by omega), hide ⟨a1, sd1, ha1, D.below b2⟩⟩
      have HQd : Hid (Q w d ao cap xs s (.slice lo s.log.length lc) us u4 vs ps (a) wr.drew) := hide ⟨a, sd', Nat.le_refl _, HR.out.below ⟨rfl, rfl, rfl, Nat.le_refl _, fun _ _ => rfl⟩⟩
      have cd : wr.drew.cell? ⟨w.heap.size, 0, none⟩ = some (.int .i64 s.term) := c0
      go_wp2
      go_region_held_law (fun wx => wx.cell? ⟨w.heap.size, 0, none⟩ = some (.int .i64 s.term)) (first | assumption | exact cd)
        (first | (go_at_call 72; refine (HV.out _ _ _ _ (by omega) (by omega) (by omega) (by omega) H2).mono ?_; rintro e w3 ⟨o3, n3, c3v, P3, rfl, O3, H3, c30, c32, c34⟩) | (have _h := H1; go_at_call 37; refine (HNx.out _ _ _ (by omega) (by omega) H1).mono ?_; rintro e w2 ⟨r2, rfl, b2, H2, _, c20, c22, c24⟩) | (go_at_call 37; refine (HNx.out _ _ _ (by omega) (by omega) HQd).mono ?_; rintro e w1 ⟨r1, rfl, b1, H1, _, c10, c12, c14⟩; have hw1 : IntKind.i64.wrap (s.term + r1) = s.term + r1 := (by rw [IntKind.wrap_i64]; omega)))
      have HN := hide (HNx.out w3 (a + 1 + 1) 8 (by omega) (by omega) H3)
      clear c0 c1 c2 c3 c4 c5 fz
      go_wp2_with fail
      refine HN.out.mono ?_
      rintro e w4 ⟨r8, rfl, b8, H4, K4, c40, c42, c44⟩
      rcases (show r8 = 0 ∨ r8 = 1 ∨ r8 = 2 ∨ r8 = 3 ∨ r8 = 4 ∨ r8 = 5 ∨ 6 ≤ r8 by omega) with rfl | rfl | rfl | rfl | rfl | rfl | h6
      · have HN := hide (HNx.out w4 (a + 3) 4 (by omega) (by omega) H4)
        go_wp2_with fail
        refine HN.out.mono ?_
        rintro e w5 ⟨r5, rfl, b5, H5, _, c50, c52, c54⟩
        have HN := hide (HNx.out w5 (a + 3 + 1) 4 (by omega) (by omega) H5)
        go_wp2_with fail
        refine HN.out.mono ?_
        rintro e w6 ⟨r6, rfl, b6, H6, _, c60, c62, c64⟩
        have HN := hide (HNx.out w6 (a + 3 + 1 + 1) 3 (by omega) (by omega) H6)
        go_wp2_with fail
        refine HN.out.mono ?_
        rintro e w7 ⟨r7, rfl, b7, H7, _, c70, c72, c74⟩
        have hq0 : 0 ≤ r6.tdiv 3 ∧ r6.tdiv 3 ≤ 1 := by
          rcases (show r6 = 0 ∨ r6 = 1 ∨ r6 = 2 ∨ r6 = 3 by omega) with rfl | rfl | rfl | rfl <;> decide
        obtain ⟨pr, hpr, hpr0⟩ : ∃ pr, pr = r6.tdiv 3 * r7 ∧ 0 ≤ pr ∧ pr ≤ 2 := by
          refine ⟨_, rfl, ?_⟩
          rcases (show r6.tdiv 3 = 0 ∨ r6.tdiv 3 = 1 by omega) with e | e
          · rw [e]; omega
          · rw [e]; omega
        have hwm : IntKind.i64.wrap (r6.tdiv 3 * r7) = pr := by rw [← hpr, IntKind.wrap_i64]; omega
        have HB := hide (HBy.out w7 (a + 3 + 1 + 1 + 1) 5 (by omega) (by omega) H7)
        go_wp2_with fail
        all_goals
          refine HB.out.mono ?_
          rintro e w8 ⟨o8, c8, ys8, rfl, O8, hy8, H8, c80, c82, c84⟩
          go_wp2_with fail
          have hwq : wrap64 (r6 / 3 * r7) = pr := by
            have e3 : r6 / 3 * r7 = pr := by rw [hpr, Int.tdiv_eq_ediv_of_nonneg (by omega)]
            rw [e3]; unfold wrap64; omega
          have hwz : wrap64 (s.base + s.log.length + 1 - wrap64 (r6 / 3 * r7)) = s.base + s.log.length + 1 - pr := by
            rw [hwq]; unfold wrap64; omega
          refine (HEn.out _ _ _ _ _ _ _ (by omega) (by omega) (by omega) (by omega) (by omega) O8 H8).mono ?_
          rintro e w9 ⟨oR, nR, cR, PR, rfl, OR, HR9, c90, c92, c94⟩
          have HO := hide (OR).out.1
          have hPl : PR.length ≤ 40 := (OR).out.2
          obtain ⟨aR, sdR, haR, DR⟩ := (HR9).out
          have HD := hide DR
          have hnR : nR = (frameN PR).length := (le_cap HO.out.rd).1
          have HNx3 : Hid (Calls Try.prog 77 #[.slice oR nR cR, .int .i64 0] w9 fun e w' => ∃ v, e = .returned (.tuple #[v, .int .i64 ((frameN PR).length : Nat), .int .i64 0]) ∧ Own w' w9.heap.size v PR ∧ Below w9.heap.size w9 w') := by
            have h := specs.next_any w9 oR cR 0 (frameN PR) (by rw [← hnR]; exact Own.rdA HO.out) (Nat.zero_le _) (by have := frame_len40 hPl; omega)
            have hw := frameAt_whole PR [] (by omega)
            rw [List.append_nil] at hw
            rw [List.drop_zero, hw, ← hnR] at h
            simp only [Int.natCast_zero, Nat.zero_add, if_true] at h
            rw [← hnR]
            exact h
          clear DR hnR
          go_wp2_with fail
          refine HNx3.out.mono ?_
          rintro e y1 ⟨v1, rfl, OP, b1⟩
          have D1 := hide (HD.out.below b1)
          have O1 := hide (HO.out.below b1 (Nat.le_refl _))
          obtain ⟨oP, cP, eP, _⟩ := OP.rd
          subst eP
          have HTk := hide (takespl.take_any y1 s (.slice lo s.log.length lc) us 0 D1.out.log D1.out.sok.2.1 D1.out.sok.2.2.1 oP cP PR (Own.rdA OP) (by omega))
          unfold walV at HTk
          obtain ⟨⟨c0, c1, c2, c3, c4, c5⟩, fz⟩ := D1.out.cells
          clear b1 OP HNx3 HD HO
          go_wp2_with fail
          refine HTk.out.mono ?_
          rintro e y2 ⟨b2, h2⟩
          have D2 := hide (D1.out.below b2)
          have O2 := hide (O1.out.below b2 (Nat.le_refl _))
          have D3 : Hid (∀ o, RD w (y2.alloc o) d w.heap.size ao cap xs s (.slice lo s.log.length lc) us u4 vs ps aR sdR) := fun o => D2.out.below ((Below.refl _ _).alloc (Nat.le_refl _) o)
          have hlt1 := D1.out.lt
          have hgr := D1.out.gr.size
          have q0 : ∀ o, (y2.alloc o).cell? ⟨w.heap.size, 0, none⟩ = some (.int .i64 s.term) := fun o => (D3.out o).cells.1.1
          have q1 : ∀ o, (y2.alloc o).cell? ⟨w.heap.size, 1, none⟩ = some (.int .i64 s.vote) := fun o => (D3.out o).cells.1.2.1
          have q2 : ∀ o, (y2.alloc o).cell? ⟨w.heap.size, 2, none⟩ = some (.int .i64 s.base) := fun o => (D3.out o).cells.1.2.2.1
          have q3 : ∀ o, (y2.alloc o).cell? ⟨w.heap.size, 3, none⟩ = some (.int .i64 s.bterm) := fun o => (D3.out o).cells.1.2.2.2.1
          have q4 : ∀ o, (y2.alloc o).cell? ⟨w.heap.size, 4, none⟩ = some (.slice lo s.log.length lc) := fun o => (D3.out o).cells.1.2.2.2.2.1
          have q5 : ∀ o, (y2.alloc o).cell? ⟨w.heap.size, 5, none⟩ = some (.int .i64 0) := fun o => (D3.out o).cells.1.2.2.2.2.2
          have qf : ∀ o i, (y2.alloc o).frozen? ⟨w.heap.size, i, none⟩ = false := fun o i => (D3.out o).cells.2 i
          have O3 : Hid (∀ o, Own (y2.alloc o) (w.heap.size + 1) (.slice oR nR cR) (frameN PR)) := fun o => O2.out.below ((Below.refl _ _).alloc (Nat.le_refl _) o) (Nat.le_refl _)
          clear HTk c0 c1 c2 c3 c4 c5 fz
          rcases h2 with ⟨hn, rfl⟩ | ⟨s', o9, n9, c9, us9, hs', rfl, L9, F9, W9⟩
          · unfold walV
            clear b2
            have HRow : Hid (∀ o2 o, ((y2.alloc o2).alloc o).ownsRow (w.heap.size + 1) 22 1 u4 vs.length vs) := fun o2 o => World.ownsRow.alloc (D3.out o2).row o
            go_wp2_with (at_builtin; (refine wpList_append_lies22 _ rfl _ _ rfl (w.heap.size + 1) u4 vs.length vs rfl (HRow.out _ _) ⟨y2.heap.size + 1, 0, none⟩ 1 1 [.slice oR nR cR] rfl rfl (by rw [show y2.heap.size + 1 = (y2.alloc (.cells #[.int .i64 s.term, .int .i64 s.vote, .int .i64 s.base, .int .i64 s.bterm, (.slice lo s.log.length lc), .int .i64 0] 52)).heap.size by simp]; exact cell_one_new _ _ _) (by intro u hu; simp at hu; subst hu; rfl) (by decide) (by omega) (by have := (D3.out (.cells #[.int .i64 s.term, .int .i64 s.vote, .int .i64 s.base, .int .i64 s.bterm, (.slice lo s.log.length lc), .int .i64 0] 52)).lt; simp at this ⊢; omega) ?_; intro g cap9 w9 hown hgrow hat hlt9))
            have HF := hide ((D3.out _).push hPl (O3.out _) hown hgrow (by rcases hat with e | e; exact .inl e.symm; exact .inr (fun g' hg' => by simp [Value.ownBlock] at hg'; simp at e ⊢; omega)))
            clear hown hgrow hat
            go_wp2
            go_roundw
            case rel => exact ⟨k', s, lo, lc, us, vs ++ [.slice oR nR cR], ps ++ [PR], aR, sdR, by go_num, by rw [List.length_append]; show k' + (vs.length + 1) ≤ 13; omega, by omega, HF⟩
            case measure => simp [intOf]
          · unfold walV
            have HN9 : Hid (LogR y2 (.slice o9 n9 c9) s'.log us9 ∧ Low (.slice o9 n9 c9) us9 y2.heap.size ∧ Far (.slice o9 n9 c9) us9 d ∧ Far (.slice o9 n9 c9) us9 w.heap.size ∧ (∀ g, u4.ownBlock = some g → Far (.slice o9 n9 c9) us9 g) ∧ stOK s') := hide ⟨L9, W9 D1.out.low, F9 _ (by have := D1.out.dB; omega) D1.out.fd, F9 _ hlt1 D1.out.fX, fun g hg => F9 g (by have := (World.ownsRow.lt D1.out.row g hg).2; omega) (D1.out.fo g hg), take_stOK D1.out.sok hs'⟩
            have hn9 : n9 = s'.log.length := by
              obtain ⟨ao', cap', e', _⟩ := L9.rd.row
              simp only [Value.slice.injEq] at e'
              exact e'.2.1
            subst hn9
            have HNx4 := hide ((D3.out (.cells #[.int .i64 s'.term, .int .i64 s'.vote, .int .i64 s'.base, .int .i64 s'.bterm, (.slice o9 s'.log.length c9), .int .i64 0] 52)).next (HN9.out.1.below ((Below.refl _ _).alloc (Nat.le_refl _) _) (Nat.le_refl _)) (HN9.out.2.1.mono (by simp)) HN9.out.2.2.1 HN9.out.2.2.2.1 HN9.out.2.2.2.2.1 HN9.out.2.2.2.2.2)
            clear L9 W9 F9 hs' b2
            have hsz4 : ((((((((y2.alloc (.cells #[.int .i64 s'.term, .int .i64 s'.vote, .int .i64 s'.base, .int .i64 s'.bterm, (.slice o9 s'.log.length c9), .int .i64 0] 52)).setCell ⟨w.heap.size, 0, none⟩ (.int .i64 s'.term)).setCell ⟨w.heap.size, 1, none⟩ (.int .i64 s'.vote)).setCell ⟨w.heap.size, 2, none⟩ (.int .i64 s'.base)).setCell ⟨w.heap.size, 3, none⟩ (.int .i64 s'.bterm)).setCell ⟨w.heap.size, 4, none⟩ (.slice o9 s'.log.length c9)).setCell ⟨w.heap.size, 5, none⟩ (.int .i64 0)) : World).heap.size = y2.heap.size + 1 := by simp
            have O4 : Hid (Own (((((((y2.alloc (.cells #[.int .i64 s'.term, .int .i64 s'.vote, .int .i64 s'.base, .int .i64 s'.bterm, (.slice o9 s'.log.length c9), .int .i64 0] 52)).setCell ⟨w.heap.size, 0, none⟩ (.int .i64 s'.term)).setCell ⟨w.heap.size, 1, none⟩ (.int .i64 s'.vote)).setCell ⟨w.heap.size, 2, none⟩ (.int .i64 s'.base)).setCell ⟨w.heap.size, 3, none⟩ (.int .i64 s'.bterm)).setCell ⟨w.heap.size, 4, none⟩ (.slice o9 s'.log.length c9)).setCell ⟨w.heap.size, 5, none⟩ (.int .i64 0)) (w.heap.size + 1) (.slice oR nR cR) (frameN PR)) := fits.own_keptR (O3.out _) (six_sets (D3.out _).st _ _ _ _ _ _).2 (fun j hj e => by simp only [Option.some.injEq] at e; have := ((O3.out (.cells #[] 5)).lt j hj).1; omega)
            go_wp2_with (at_builtin; (generalize ((((((((y2.alloc (.cells #[.int .i64 s'.term, .int .i64 s'.vote, .int .i64 s'.base, .int .i64 s'.bterm, (.slice o9 s'.log.length c9), .int .i64 0] 52)).setCell ⟨w.heap.size, 0, none⟩ (.int .i64 s'.term)).setCell ⟨w.heap.size, 1, none⟩ (.int .i64 s'.vote)).setCell ⟨w.heap.size, 2, none⟩ (.int .i64 s'.base)).setCell ⟨w.heap.size, 3, none⟩ (.int .i64 s'.bterm)).setCell ⟨w.heap.size, 4, none⟩ (.slice o9 s'.log.length c9)).setCell ⟨w.heap.size, 5, none⟩ (.int .i64 0)) : World) = y3 at HNx4 O4 hsz4 ⊢; refine wpList_append_lies22 _ rfl _ _ rfl (w.heap.size + 1) u4 vs.length vs rfl (World.ownsRow.alloc HNx4.out.row _) ⟨y2.heap.size + 1, 0, none⟩ 1 1 [.slice oR nR cR] rfl rfl (by rw [← hsz4]; exact cell_one_new _ _ _) (by intro u hu; simp at hu; subst hu; rfl) (by decide) (by omega) (by have := HNx4.out.lt; simp at this ⊢; omega) ?_; intro g cap9 w9 hown hgrow hat hlt9))
            have HF := hide (HNx4.out.push hPl O4.out hown hgrow (by rcases hat with e | e; exact .inl e.symm; exact .inr (fun g' hg' => by simp [Value.ownBlock] at hg'; simp at e; omega)))
            clear hown hgrow hat
            go_wp2
            go_roundw
            case rel => exact ⟨k', s', o9, c9, us9, vs ++ [.slice oR nR cR], ps ++ [PR], aR, sdR, by go_num, by rw [List.length_append]; show k' + (vs.length + 1) ≤ 13; omega, by omega, HF⟩
            case measure => simp [intOf]
      · have HN := hide (HNx.out w4 (a + 3) 4 (by omega) (by omega) H4)
        go_wp2_with fail
        refine HN.out.mono ?_
        rintro e w5 ⟨r5, rfl, b5, H5, _, c50, c52, c54⟩
        have HN := hide (HNx.out w5 (a + 3 + 1) 4 (by omega) (by omega) H5)
        go_wp2_with fail
        refine HN.out.mono ?_
        rintro e w6 ⟨r6, rfl, b6, H6, _, c60, c62, c64⟩
        have HN := hide (HNx.out w6 (a + 3 + 1 + 1) 3 (by omega) (by omega) H6)
        go_wp2_with fail
        refine HN.out.mono ?_
        rintro e w7 ⟨r7, rfl, b7, H7, _, c70, c72, c74⟩
        have hq0 : 0 ≤ r6.tdiv 3 ∧ r6.tdiv 3 ≤ 1 := by
          rcases (show r6 = 0 ∨ r6 = 1 ∨ r6 = 2 ∨ r6 = 3 by omega) with rfl | rfl | rfl | rfl <;> decide
        obtain ⟨pr, hpr, hpr0⟩ : ∃ pr, pr = r6.tdiv 3 * r7 ∧ 0 ≤ pr ∧ pr ≤ 2 := by
          refine ⟨_, rfl, ?_⟩
          rcases (show r6.tdiv 3 = 0 ∨ r6.tdiv 3 = 1 by omega) with e | e
          · rw [e]; omega
          · rw [e]; omega
        have hwm : IntKind.i64.wrap (r6.tdiv 3 * r7) = pr := by rw [← hpr, IntKind.wrap_i64]; omega
        have HB := hide (HBy.out w7 (a + 3 + 1 + 1 + 1) 5 (by omega) (by omega) H7)
        go_wp2_with fail
        all_goals
          refine HB.out.mono ?_
          rintro e w8 ⟨o8, c8, ys8, rfl, O8, hy8, H8, c80, c82, c84⟩
          go_wp2_with fail
          have hwq : wrap64 (r6 / 3 * r7) = pr := by
            have e3 : r6 / 3 * r7 = pr := by rw [hpr, Int.tdiv_eq_ediv_of_nonneg (by omega)]
            rw [e3]; unfold wrap64; omega
          have hwz : wrap64 (s.base + s.log.length + 1 - wrap64 (r6 / 3 * r7)) = s.base + s.log.length + 1 - pr := by
            rw [hwq]; unfold wrap64; omega
          refine (HEn.out _ _ _ _ _ _ _ (by omega) (by omega) (by omega) (by omega) (by omega) O8 H8).mono ?_
          rintro e w9 ⟨oR, nR, cR, PR, rfl, OR, HR9, c90, c92, c94⟩
          have HO := hide (OR).out.1
          have hPl : PR.length ≤ 40 := (OR).out.2
          obtain ⟨aR, sdR, haR, DR⟩ := (HR9).out
          have HD := hide DR
          have hnR : nR = (frameN PR).length := (le_cap HO.out.rd).1
          have HNx3 : Hid (Calls Try.prog 77 #[.slice oR nR cR, .int .i64 0] w9 fun e w' => ∃ v, e = .returned (.tuple #[v, .int .i64 ((frameN PR).length : Nat), .int .i64 0]) ∧ Own w' w9.heap.size v PR ∧ Below w9.heap.size w9 w') := by
            have h := specs.next_any w9 oR cR 0 (frameN PR) (by rw [← hnR]; exact Own.rdA HO.out) (Nat.zero_le _) (by have := frame_len40 hPl; omega)
            have hw := frameAt_whole PR [] (by omega)
            rw [List.append_nil] at hw
            rw [List.drop_zero, hw, ← hnR] at h
            simp only [Int.natCast_zero, Nat.zero_add, if_true] at h
            rw [← hnR]
            exact h
          clear DR hnR
          go_wp2_with fail
          refine HNx3.out.mono ?_
          rintro e y1 ⟨v1, rfl, OP, b1⟩
          have D1 := hide (HD.out.below b1)
          have O1 := hide (HO.out.below b1 (Nat.le_refl _))
          obtain ⟨oP, cP, eP, _⟩ := OP.rd
          subst eP
          have HTk := hide (takespl.take_any y1 s (.slice lo s.log.length lc) us 0 D1.out.log D1.out.sok.2.1 D1.out.sok.2.2.1 oP cP PR (Own.rdA OP) (by omega))
          unfold walV at HTk
          obtain ⟨⟨c0, c1, c2, c3, c4, c5⟩, fz⟩ := D1.out.cells
          clear b1 OP HNx3 HD HO
          go_wp2_with fail
          refine HTk.out.mono ?_
          rintro e y2 ⟨b2, h2⟩
          have D2 := hide (D1.out.below b2)
          have O2 := hide (O1.out.below b2 (Nat.le_refl _))
          have D3 : Hid (∀ o, RD w (y2.alloc o) d w.heap.size ao cap xs s (.slice lo s.log.length lc) us u4 vs ps aR sdR) := fun o => D2.out.below ((Below.refl _ _).alloc (Nat.le_refl _) o)
          have hlt1 := D1.out.lt
          have hgr := D1.out.gr.size
          have q0 : ∀ o, (y2.alloc o).cell? ⟨w.heap.size, 0, none⟩ = some (.int .i64 s.term) := fun o => (D3.out o).cells.1.1
          have q1 : ∀ o, (y2.alloc o).cell? ⟨w.heap.size, 1, none⟩ = some (.int .i64 s.vote) := fun o => (D3.out o).cells.1.2.1
          have q2 : ∀ o, (y2.alloc o).cell? ⟨w.heap.size, 2, none⟩ = some (.int .i64 s.base) := fun o => (D3.out o).cells.1.2.2.1
          have q3 : ∀ o, (y2.alloc o).cell? ⟨w.heap.size, 3, none⟩ = some (.int .i64 s.bterm) := fun o => (D3.out o).cells.1.2.2.2.1
          have q4 : ∀ o, (y2.alloc o).cell? ⟨w.heap.size, 4, none⟩ = some (.slice lo s.log.length lc) := fun o => (D3.out o).cells.1.2.2.2.2.1
          have q5 : ∀ o, (y2.alloc o).cell? ⟨w.heap.size, 5, none⟩ = some (.int .i64 0) := fun o => (D3.out o).cells.1.2.2.2.2.2
          have qf : ∀ o i, (y2.alloc o).frozen? ⟨w.heap.size, i, none⟩ = false := fun o i => (D3.out o).cells.2 i
          have O3 : Hid (∀ o, Own (y2.alloc o) (w.heap.size + 1) (.slice oR nR cR) (frameN PR)) := fun o => O2.out.below ((Below.refl _ _).alloc (Nat.le_refl _) o) (Nat.le_refl _)
          clear HTk c0 c1 c2 c3 c4 c5 fz
          rcases h2 with ⟨hn, rfl⟩ | ⟨s', o9, n9, c9, us9, hs', rfl, L9, F9, W9⟩
          · unfold walV
            clear b2
            have HRow : Hid (∀ o2 o, ((y2.alloc o2).alloc o).ownsRow (w.heap.size + 1) 22 1 u4 vs.length vs) := fun o2 o => World.ownsRow.alloc (D3.out o2).row o
            go_wp2_with (at_builtin; (refine wpList_append_lies22 _ rfl _ _ rfl (w.heap.size + 1) u4 vs.length vs rfl (HRow.out _ _) ⟨y2.heap.size + 1, 0, none⟩ 1 1 [.slice oR nR cR] rfl rfl (by rw [show y2.heap.size + 1 = (y2.alloc (.cells #[.int .i64 s.term, .int .i64 s.vote, .int .i64 s.base, .int .i64 s.bterm, (.slice lo s.log.length lc), .int .i64 0] 52)).heap.size by simp]; exact cell_one_new _ _ _) (by intro u hu; simp at hu; subst hu; rfl) (by decide) (by omega) (by have := (D3.out (.cells #[.int .i64 s.term, .int .i64 s.vote, .int .i64 s.base, .int .i64 s.bterm, (.slice lo s.log.length lc), .int .i64 0] 52)).lt; simp at this ⊢; omega) ?_; intro g cap9 w9 hown hgrow hat hlt9))
            have HF := hide ((D3.out _).push hPl (O3.out _) hown hgrow (by rcases hat with e | e; exact .inl e.symm; exact .inr (fun g' hg' => by simp [Value.ownBlock] at hg'; simp at e ⊢; omega)))
            clear hown hgrow hat
            go_wp2
            go_roundw
            case rel => exact ⟨k', s, lo, lc, us, vs ++ [.slice oR nR cR], ps ++ [PR], aR, sdR, by go_num, by rw [List.length_append]; show k' + (vs.length + 1) ≤ 13; omega, by omega, HF⟩
            case measure => simp [intOf]
          · unfold walV
            have HN9 : Hid (LogR y2 (.slice o9 n9 c9) s'.log us9 ∧ Low (.slice o9 n9 c9) us9 y2.heap.size ∧ Far (.slice o9 n9 c9) us9 d ∧ Far (.slice o9 n9 c9) us9 w.heap.size ∧ (∀ g, u4.ownBlock = some g → Far (.slice o9 n9 c9) us9 g) ∧ stOK s') := hide ⟨L9, W9 D1.out.low, F9 _ (by have := D1.out.dB; omega) D1.out.fd, F9 _ hlt1 D1.out.fX, fun g hg => F9 g (by have := (World.ownsRow.lt D1.out.row g hg).2; omega) (D1.out.fo g hg), take_stOK D1.out.sok hs'⟩
            have hn9 : n9 = s'.log.length := by
              obtain ⟨ao', cap', e', _⟩ := L9.rd.row
              simp only [Value.slice.injEq] at e'
              exact e'.2.1
            subst hn9
            have HNx4 := hide ((D3.out (.cells #[.int .i64 s'.term, .int .i64 s'.vote, .int .i64 s'.base, .int .i64 s'.bterm, (.slice o9 s'.log.length c9), .int .i64 0] 52)).next (HN9.out.1.below ((Below.refl _ _).alloc (Nat.le_refl _) _) (Nat.le_refl _)) (HN9.out.2.1.mono (by simp)) HN9.out.2.2.1 HN9.out.2.2.2.1 HN9.out.2.2.2.2.1 HN9.out.2.2.2.2.2)
            clear L9 W9 F9 hs' b2
            have hsz4 : ((((((((y2.alloc (.cells #[.int .i64 s'.term, .int .i64 s'.vote, .int .i64 s'.base, .int .i64 s'.bterm, (.slice o9 s'.log.length c9), .int .i64 0] 52)).setCell ⟨w.heap.size, 0, none⟩ (.int .i64 s'.term)).setCell ⟨w.heap.size, 1, none⟩ (.int .i64 s'.vote)).setCell ⟨w.heap.size, 2, none⟩ (.int .i64 s'.base)).setCell ⟨w.heap.size, 3, none⟩ (.int .i64 s'.bterm)).setCell ⟨w.heap.size, 4, none⟩ (.slice o9 s'.log.length c9)).setCell ⟨w.heap.size, 5, none⟩ (.int .i64 0)) : World).heap.size = y2.heap.size + 1 := by simp
            have O4 : Hid (Own (((((((y2.alloc (.cells #[.int .i64 s'.term, .int .i64 s'.vote, .int .i64 s'.base, .int .i64 s'.bterm, (.slice o9 s'.log.length c9), .int .i64 0] 52)).setCell ⟨w.heap.size, 0, none⟩ (.int .i64 s'.term)).setCell ⟨w.heap.size, 1, none⟩ (.int .i64 s'.vote)).setCell ⟨w.heap.size, 2, none⟩ (.int .i64 s'.base)).setCell ⟨w.heap.size, 3, none⟩ (.int .i64 s'.bterm)).setCell ⟨w.heap.size, 4, none⟩ (.slice o9 s'.log.length c9)).setCell ⟨w.heap.size, 5, none⟩ (.int .i64 0)) (w.heap.size + 1) (.slice oR nR cR) (frameN PR)) := fits.own_keptR (O3.out _) (six_sets (D3.out _).st _ _ _ _ _ _).2 (fun j hj e => by simp only [Option.some.injEq] at e; have := ((O3.out (.cells #[] 5)).lt j hj).1; omega)
            go_wp2_with (at_builtin; (generalize ((((((((y2.alloc (.cells #[.int .i64 s'.term, .int .i64 s'.vote, .int .i64 s'.base, .int .i64 s'.bterm, (.slice o9 s'.log.length c9), .int .i64 0] 52)).setCell ⟨w.heap.size, 0, none⟩ (.int .i64 s'.term)).setCell ⟨w.heap.size, 1, none⟩ (.int .i64 s'.vote)).setCell ⟨w.heap.size, 2, none⟩ (.int .i64 s'.base)).setCell ⟨w.heap.size, 3, none⟩ (.int .i64 s'.bterm)).setCell ⟨w.heap.size, 4, none⟩ (.slice o9 s'.log.length c9)).setCell ⟨w.heap.size, 5, none⟩ (.int .i64 0)) : World) = y3 at HNx4 O4 hsz4 ⊢; refine wpList_append_lies22 _ rfl _ _ rfl (w.heap.size + 1) u4 vs.length vs rfl (World.ownsRow.alloc HNx4.out.row _) ⟨y2.heap.size + 1, 0, none⟩ 1 1 [.slice oR nR cR] rfl rfl (by rw [← hsz4]; exact cell_one_new _ _ _) (by intro u hu; simp at hu; subst hu; rfl) (by decide) (by omega) (by have := HNx4.out.lt; simp at this ⊢; omega) ?_; intro g cap9 w9 hown hgrow hat hlt9))
            have HF := hide (HNx4.out.push hPl O4.out hown hgrow (by rcases hat with e | e; exact .inl e.symm; exact .inr (fun g' hg' => by simp [Value.ownBlock] at hg'; simp at e; omega)))
            clear hown hgrow hat
            go_wp2
            go_roundw
            case rel => exact ⟨k', s', o9, c9, us9, vs ++ [.slice oR nR cR], ps ++ [PR], aR, sdR, by go_num, by rw [List.length_append]; show k' + (vs.length + 1) ≤ 13; omega, by omega, HF⟩
            case measure => simp [intOf]
      · have HN := hide (HNx.out w4 (a + 3) 4 (by omega) (by omega) H4)
        go_wp2_with fail
        refine HN.out.mono ?_
        rintro e w5 ⟨r5, rfl, b5, H5, _, c50, c52, c54⟩
        have HN := hide (HNx.out w5 (a + 3 + 1) 4 (by omega) (by omega) H5)
        go_wp2_with fail
        refine HN.out.mono ?_
        rintro e w6 ⟨r6, rfl, b6, H6, _, c60, c62, c64⟩
        have HN := hide (HNx.out w6 (a + 3 + 1 + 1) 3 (by omega) (by omega) H6)
        go_wp2_with fail
        refine HN.out.mono ?_
        rintro e w7 ⟨r7, rfl, b7, H7, _, c70, c72, c74⟩
        have hq0 : 0 ≤ r6.tdiv 3 ∧ r6.tdiv 3 ≤ 1 := by
          rcases (show r6 = 0 ∨ r6 = 1 ∨ r6 = 2 ∨ r6 = 3 by omega) with rfl | rfl | rfl | rfl <;> decide
        obtain ⟨pr, hpr, hpr0⟩ : ∃ pr, pr = r6.tdiv 3 * r7 ∧ 0 ≤ pr ∧ pr ≤ 2 := by
          refine ⟨_, rfl, ?_⟩
          rcases (show r6.tdiv 3 = 0 ∨ r6.tdiv 3 = 1 by omega) with e | e
          · rw [e]; omega
          · rw [e]; omega
        have hwm : IntKind.i64.wrap (r6.tdiv 3 * r7) = pr := by rw [← hpr, IntKind.wrap_i64]; omega
        have HB := hide (HBy.out w7 (a + 3 + 1 + 1 + 1) 5 (by omega) (by omega) H7)
        go_wp2_with fail
        all_goals
          refine HB.out.mono ?_
          rintro e w8 ⟨o8, c8, ys8, rfl, O8, hy8, H8, c80, c82, c84⟩
          go_wp2_with fail
          have hwq : wrap64 (r6 / 3 * r7) = pr := by
            have e3 : r6 / 3 * r7 = pr := by rw [hpr, Int.tdiv_eq_ediv_of_nonneg (by omega)]
            rw [e3]; unfold wrap64; omega
          have hwz : wrap64 (s.base + s.log.length + 1 - wrap64 (r6 / 3 * r7)) = s.base + s.log.length + 1 - pr := by
            rw [hwq]; unfold wrap64; omega
          refine (HEn.out _ _ _ _ _ _ _ (by omega) (by omega) (by omega) (by omega) (by omega) O8 H8).mono ?_
          rintro e w9 ⟨oR, nR, cR, PR, rfl, OR, HR9, c90, c92, c94⟩
          have HO := hide (OR).out.1
          have hPl : PR.length ≤ 40 := (OR).out.2
          obtain ⟨aR, sdR, haR, DR⟩ := (HR9).out
          have HD := hide DR
          have hnR : nR = (frameN PR).length := (le_cap HO.out.rd).1
          have HNx3 : Hid (Calls Try.prog 77 #[.slice oR nR cR, .int .i64 0] w9 fun e w' => ∃ v, e = .returned (.tuple #[v, .int .i64 ((frameN PR).length : Nat), .int .i64 0]) ∧ Own w' w9.heap.size v PR ∧ Below w9.heap.size w9 w') := by
            have h := specs.next_any w9 oR cR 0 (frameN PR) (by rw [← hnR]; exact Own.rdA HO.out) (Nat.zero_le _) (by have := frame_len40 hPl; omega)
            have hw := frameAt_whole PR [] (by omega)
            rw [List.append_nil] at hw
            rw [List.drop_zero, hw, ← hnR] at h
            simp only [Int.natCast_zero, Nat.zero_add, if_true] at h
            rw [← hnR]
            exact h
          clear DR hnR
          go_wp2_with fail
          refine HNx3.out.mono ?_
          rintro e y1 ⟨v1, rfl, OP, b1⟩
          have D1 := hide (HD.out.below b1)
          have O1 := hide (HO.out.below b1 (Nat.le_refl _))
          obtain ⟨oP, cP, eP, _⟩ := OP.rd
          subst eP
          have HTk := hide (takespl.take_any y1 s (.slice lo s.log.length lc) us 0 D1.out.log D1.out.sok.2.1 D1.out.sok.2.2.1 oP cP PR (Own.rdA OP) (by omega))
          unfold walV at HTk
          obtain ⟨⟨c0, c1, c2, c3, c4, c5⟩, fz⟩ := D1.out.cells
          clear b1 OP HNx3 HD HO
          go_wp2_with fail
          refine HTk.out.mono ?_
          rintro e y2 ⟨b2, h2⟩
          have D2 := hide (D1.out.below b2)
          have O2 := hide (O1.out.below b2 (Nat.le_refl _))
          have D3 : Hid (∀ o, RD w (y2.alloc o) d w.heap.size ao cap xs s (.slice lo s.log.length lc) us u4 vs ps aR sdR) := fun o => D2.out.below ((Below.refl _ _).alloc (Nat.le_refl _) o)
          have hlt1 := D1.out.lt
          have hgr := D1.out.gr.size
          have q0 : ∀ o, (y2.alloc o).cell? ⟨w.heap.size, 0, none⟩ = some (.int .i64 s.term) := fun o => (D3.out o).cells.1.1
          have q1 : ∀ o, (y2.alloc o).cell? ⟨w.heap.size, 1, none⟩ = some (.int .i64 s.vote) := fun o => (D3.out o).cells.1.2.1
          have q2 : ∀ o, (y2.alloc o).cell? ⟨w.heap.size, 2, none⟩ = some (.int .i64 s.base) := fun o => (D3.out o).cells.1.2.2.1
          have q3 : ∀ o, (y2.alloc o).cell? ⟨w.heap.size, 3, none⟩ = some (.int .i64 s.bterm) := fun o => (D3.out o).cells.1.2.2.2.1
          have q4 : ∀ o, (y2.alloc o).cell? ⟨w.heap.size, 4, none⟩ = some (.slice lo s.log.length lc) := fun o => (D3.out o).cells.1.2.2.2.2.1
          have q5 : ∀ o, (y2.alloc o).cell? ⟨w.heap.size, 5, none⟩ = some (.int .i64 0) := fun o => (D3.out o).cells.1.2.2.2.2.2
          have qf : ∀ o i, (y2.alloc o).frozen? ⟨w.heap.size, i, none⟩ = false := fun o i => (D3.out o).cells.2 i
          have O3 : Hid (∀ o, Own (y2.alloc o) (w.heap.size + 1) (.slice oR nR cR) (frameN PR)) := fun o => O2.out.below ((Below.refl _ _).alloc (Nat.le_refl _) o) (Nat.le_refl _)
          clear HTk c0 c1 c2 c3 c4 c5 fz
          rcases h2 with ⟨hn, rfl⟩ | ⟨s', o9, n9, c9, us9, hs', rfl, L9, F9, W9⟩
          · unfold walV
            clear b2
            have HRow : Hid (∀ o2 o, ((y2.alloc o2).alloc o).ownsRow (w.heap.size + 1) 22 1 u4 vs.length vs) := fun o2 o => World.ownsRow.alloc (D3.out o2).row o
            go_wp2_with (at_builtin; (refine wpList_append_lies22 _ rfl _ _ rfl (w.heap.size + 1) u4 vs.length vs rfl (HRow.out _ _) ⟨y2.heap.size + 1, 0, none⟩ 1 1 [.slice oR nR cR] rfl rfl (by rw [show y2.heap.size + 1 = (y2.alloc (.cells #[.int .i64 s.term, .int .i64 s.vote, .int .i64 s.base, .int .i64 s.bterm, (.slice lo s.log.length lc), .int .i64 0] 52)).heap.size by simp]; exact cell_one_new _ _ _) (by intro u hu; simp at hu; subst hu; rfl) (by decide) (by omega) (by have := (D3.out (.cells #[.int .i64 s.term, .int .i64 s.vote, .int .i64 s.base, .int .i64 s.bterm, (.slice lo s.log.length lc), .int .i64 0] 52)).lt; simp at this ⊢; omega) ?_; intro g cap9 w9 hown hgrow hat hlt9))
            have HF := hide ((D3.out _).push hPl (O3.out _) hown hgrow (by rcases hat with e | e; exact .inl e.symm; exact .inr (fun g' hg' => by simp [Value.ownBlock] at hg'; simp at e ⊢; omega)))
            clear hown hgrow hat
            go_wp2
            go_roundw
            case rel => exact ⟨k', s, lo, lc, us, vs ++ [.slice oR nR cR], ps ++ [PR], aR, sdR, by go_num, by rw [List.length_append]; show k' + (vs.length + 1) ≤ 13; omega, by omega, HF⟩
            case measure => simp [intOf]
          · unfold walV
            have HN9 : Hid (LogR y2 (.slice o9 n9 c9) s'.log us9 ∧ Low (.slice o9 n9 c9) us9 y2.heap.size ∧ Far (.slice o9 n9 c9) us9 d ∧ Far (.slice o9 n9 c9) us9 w.heap.size ∧ (∀ g, u4.ownBlock = some g → Far (.slice o9 n9 c9) us9 g) ∧ stOK s') := hide ⟨L9, W9 D1.out.low, F9 _ (by have := D1.out.dB; omega) D1.out.fd, F9 _ hlt1 D1.out.fX, fun g hg => F9 g (by have := (World.ownsRow.lt D1.out.row g hg).2; omega) (D1.out.fo g hg), take_stOK D1.out.sok hs'⟩
            have hn9 : n9 = s'.log.length := by
              obtain ⟨ao', cap', e', _⟩ := L9.rd.row
              simp only [Value.slice.injEq] at e'
              exact e'.2.1
            subst hn9
            have HNx4 := hide ((D3.out (.cells #[.int .i64 s'.term, .int .i64 s'.vote, .int .i64 s'.base, .int .i64 s'.bterm, (.slice o9 s'.log.length c9), .int .i64 0] 52)).next (HN9.out.1.below ((Below.refl _ _).alloc (Nat.le_refl _) _) (Nat.le_refl _)) (HN9.out.2.1.mono (by simp)) HN9.out.2.2.1 HN9.out.2.2.2.1 HN9.out.2.2.2.2.1 HN9.out.2.2.2.2.2)
            clear L9 W9 F9 hs' b2
            have hsz4 : ((((((((y2.alloc (.cells #[.int .i64 s'.term, .int .i64 s'.vote, .int .i64 s'.base, .int .i64 s'.bterm, (.slice o9 s'.log.length c9), .int .i64 0] 52)).setCell ⟨w.heap.size, 0, none⟩ (.int .i64 s'.term)).setCell ⟨w.heap.size, 1, none⟩ (.int .i64 s'.vote)).setCell ⟨w.heap.size, 2, none⟩ (.int .i64 s'.base)).setCell ⟨w.heap.size, 3, none⟩ (.int .i64 s'.bterm)).setCell ⟨w.heap.size, 4, none⟩ (.slice o9 s'.log.length c9)).setCell ⟨w.heap.size, 5, none⟩ (.int .i64 0)) : World).heap.size = y2.heap.size + 1 := by simp
            have O4 : Hid (Own (((((((y2.alloc (.cells #[.int .i64 s'.term, .int .i64 s'.vote, .int .i64 s'.base, .int .i64 s'.bterm, (.slice o9 s'.log.length c9), .int .i64 0] 52)).setCell ⟨w.heap.size, 0, none⟩ (.int .i64 s'.term)).setCell ⟨w.heap.size, 1, none⟩ (.int .i64 s'.vote)).setCell ⟨w.heap.size, 2, none⟩ (.int .i64 s'.base)).setCell ⟨w.heap.size, 3, none⟩ (.int .i64 s'.bterm)).setCell ⟨w.heap.size, 4, none⟩ (.slice o9 s'.log.length c9)).setCell ⟨w.heap.size, 5, none⟩ (.int .i64 0)) (w.heap.size + 1) (.slice oR nR cR) (frameN PR)) := fits.own_keptR (O3.out _) (six_sets (D3.out _).st _ _ _ _ _ _).2 (fun j hj e => by simp only [Option.some.injEq] at e; have := ((O3.out (.cells #[] 5)).lt j hj).1; omega)
            go_wp2_with (at_builtin; (generalize ((((((((y2.alloc (.cells #[.int .i64 s'.term, .int .i64 s'.vote, .int .i64 s'.base, .int .i64 s'.bterm, (.slice o9 s'.log.length c9), .int .i64 0] 52)).setCell ⟨w.heap.size, 0, none⟩ (.int .i64 s'.term)).setCell ⟨w.heap.size, 1, none⟩ (.int .i64 s'.vote)).setCell ⟨w.heap.size, 2, none⟩ (.int .i64 s'.base)).setCell ⟨w.heap.size, 3, none⟩ (.int .i64 s'.bterm)).setCell ⟨w.heap.size, 4, none⟩ (.slice o9 s'.log.length c9)).setCell ⟨w.heap.size, 5, none⟩ (.int .i64 0)) : World) = y3 at HNx4 O4 hsz4 ⊢; refine wpList_append_lies22 _ rfl _ _ rfl (w.heap.size + 1) u4 vs.length vs rfl (World.ownsRow.alloc HNx4.out.row _) ⟨y2.heap.size + 1, 0, none⟩ 1 1 [.slice oR nR cR] rfl rfl (by rw [← hsz4]; exact cell_one_new _ _ _) (by intro u hu; simp at hu; subst hu; rfl) (by decide) (by omega) (by have := HNx4.out.lt; simp at this ⊢; omega) ?_; intro g cap9 w9 hown hgrow hat hlt9))
            have HF := hide (HNx4.out.push hPl O4.out hown hgrow (by rcases hat with e | e; exact .inl e.symm; exact .inr (fun g' hg' => by simp [Value.ownBlock] at hg'; simp at e; omega)))
            clear hown hgrow hat
            go_wp2
            go_roundw
            case rel => exact ⟨k', s', o9, c9, us9, vs ++ [.slice oR nR cR], ps ++ [PR], aR, sdR, by go_num, by rw [List.length_append]; show k' + (vs.length + 1) ≤ 13; omega, by omega, HF⟩
            case measure => simp [intOf]
      · have HN := hide (HNx.out w4 (a + 3) 4 (by omega) (by omega) H4)
        go_wp2_with fail
        refine HN.out.mono ?_
        rintro e w5 ⟨r5, rfl, b5, H5, _, c50, c52, c54⟩
        have HN := hide (HNx.out w5 (a + 3 + 1) 4 (by omega) (by omega) H5)
        go_wp2_with fail
        refine HN.out.mono ?_
        rintro e w6 ⟨r6, rfl, b6, H6, _, c60, c62, c64⟩
        have HN := hide (HNx.out w6 (a + 3 + 1 + 1) 3 (by omega) (by omega) H6)
        go_wp2_with fail
        refine HN.out.mono ?_
        rintro e w7 ⟨r7, rfl, b7, H7, _, c70, c72, c74⟩
        have hq0 : 0 ≤ r6.tdiv 3 ∧ r6.tdiv 3 ≤ 1 := by
          rcases (show r6 = 0 ∨ r6 = 1 ∨ r6 = 2 ∨ r6 = 3 by omega) with rfl | rfl | rfl | rfl <;> decide
        obtain ⟨pr, hpr, hpr0⟩ : ∃ pr, pr = r6.tdiv 3 * r7 ∧ 0 ≤ pr ∧ pr ≤ 2 := by
          refine ⟨_, rfl, ?_⟩
          rcases (show r6.tdiv 3 = 0 ∨ r6.tdiv 3 = 1 by omega) with e | e
          · rw [e]; omega
          · rw [e]; omega
        have hwm : IntKind.i64.wrap (r6.tdiv 3 * r7) = pr := by rw [← hpr, IntKind.wrap_i64]; omega
        have HB := hide (HBy.out w7 (a + 3 + 1 + 1 + 1) 5 (by omega) (by omega) H7)
        go_wp2_with fail
        all_goals
          refine HB.out.mono ?_
          rintro e w8 ⟨o8, c8, ys8, rfl, O8, hy8, H8, c80, c82, c84⟩
          go_wp2_with fail
          have hwq : wrap64 (r6 / 3 * r7) = pr := by
            have e3 : r6 / 3 * r7 = pr := by rw [hpr, Int.tdiv_eq_ediv_of_nonneg (by omega)]
            rw [e3]; unfold wrap64; omega
          have hwz : wrap64 (s.base + s.log.length + 1 - wrap64 (r6 / 3 * r7)) = s.base + s.log.length + 1 - pr := by
            rw [hwq]; unfold wrap64; omega
          refine (HEn.out _ _ _ _ _ _ _ (by omega) (by omega) (by omega) (by omega) (by omega) O8 H8).mono ?_
          rintro e w9 ⟨oR, nR, cR, PR, rfl, OR, HR9, c90, c92, c94⟩
          have HO := hide (OR).out.1
          have hPl : PR.length ≤ 40 := (OR).out.2
          obtain ⟨aR, sdR, haR, DR⟩ := (HR9).out
          have HD := hide DR
          have hnR : nR = (frameN PR).length := (le_cap HO.out.rd).1
          have HNx3 : Hid (Calls Try.prog 77 #[.slice oR nR cR, .int .i64 0] w9 fun e w' => ∃ v, e = .returned (.tuple #[v, .int .i64 ((frameN PR).length : Nat), .int .i64 0]) ∧ Own w' w9.heap.size v PR ∧ Below w9.heap.size w9 w') := by
            have h := specs.next_any w9 oR cR 0 (frameN PR) (by rw [← hnR]; exact Own.rdA HO.out) (Nat.zero_le _) (by have := frame_len40 hPl; omega)
            have hw := frameAt_whole PR [] (by omega)
            rw [List.append_nil] at hw
            rw [List.drop_zero, hw, ← hnR] at h
            simp only [Int.natCast_zero, Nat.zero_add, if_true] at h
            rw [← hnR]
            exact h
          clear DR hnR
          go_wp2_with fail
          refine HNx3.out.mono ?_
          rintro e y1 ⟨v1, rfl, OP, b1⟩
          have D1 := hide (HD.out.below b1)
          have O1 := hide (HO.out.below b1 (Nat.le_refl _))
          obtain ⟨oP, cP, eP, _⟩ := OP.rd
          subst eP
          have HTk := hide (takespl.take_any y1 s (.slice lo s.log.length lc) us 0 D1.out.log D1.out.sok.2.1 D1.out.sok.2.2.1 oP cP PR (Own.rdA OP) (by omega))
          unfold walV at HTk
          obtain ⟨⟨c0, c1, c2, c3, c4, c5⟩, fz⟩ := D1.out.cells
          clear b1 OP HNx3 HD HO
          go_wp2_with fail
          refine HTk.out.mono ?_
          rintro e y2 ⟨b2, h2⟩
          have D2 := hide (D1.out.below b2)
          have O2 := hide (O1.out.below b2 (Nat.le_refl _))
          have D3 : Hid (∀ o, RD w (y2.alloc o) d w.heap.size ao cap xs s (.slice lo s.log.length lc) us u4 vs ps aR sdR) := fun o => D2.out.below ((Below.refl _ _).alloc (Nat.le_refl _) o)
          have hlt1 := D1.out.lt
          have hgr := D1.out.gr.size
          have q0 : ∀ o, (y2.alloc o).cell? ⟨w.heap.size, 0, none⟩ = some (.int .i64 s.term) := fun o => (D3.out o).cells.1.1
          have q1 : ∀ o, (y2.alloc o).cell? ⟨w.heap.size, 1, none⟩ = some (.int .i64 s.vote) := fun o => (D3.out o).cells.1.2.1
          have q2 : ∀ o, (y2.alloc o).cell? ⟨w.heap.size, 2, none⟩ = some (.int .i64 s.base) := fun o => (D3.out o).cells.1.2.2.1
          have q3 : ∀ o, (y2.alloc o).cell? ⟨w.heap.size, 3, none⟩ = some (.int .i64 s.bterm) := fun o => (D3.out o).cells.1.2.2.2.1
          have q4 : ∀ o, (y2.alloc o).cell? ⟨w.heap.size, 4, none⟩ = some (.slice lo s.log.length lc) := fun o => (D3.out o).cells.1.2.2.2.2.1
          have q5 : ∀ o, (y2.alloc o).cell? ⟨w.heap.size, 5, none⟩ = some (.int .i64 0) := fun o => (D3.out o).cells.1.2.2.2.2.2
          have qf : ∀ o i, (y2.alloc o).frozen? ⟨w.heap.size, i, none⟩ = false := fun o i => (D3.out o).cells.2 i
          have O3 : Hid (∀ o, Own (y2.alloc o) (w.heap.size + 1) (.slice oR nR cR) (frameN PR)) := fun o => O2.out.below ((Below.refl _ _).alloc (Nat.le_refl _) o) (Nat.le_refl _)
          clear HTk c0 c1 c2 c3 c4 c5 fz
          rcases h2 with ⟨hn, rfl⟩ | ⟨s', o9, n9, c9, us9, hs', rfl, L9, F9, W9⟩
          · unfold walV
            clear b2
            have HRow : Hid (∀ o2 o, ((y2.alloc o2).alloc o).ownsRow (w.heap.size + 1) 22 1 u4 vs.length vs) := fun o2 o => World.ownsRow.alloc (D3.out o2).row o
            go_wp2_with (at_builtin; (refine wpList_append_lies22 _ rfl _ _ rfl (w.heap.size + 1) u4 vs.length vs rfl (HRow.out _ _) ⟨y2.heap.size + 1, 0, none⟩ 1 1 [.slice oR nR cR] rfl rfl (by rw [show y2.heap.size + 1 = (y2.alloc (.cells #[.int .i64 s.term, .int .i64 s.vote, .int .i64 s.base, .int .i64 s.bterm, (.slice lo s.log.length lc), .int .i64 0] 52)).heap.size by simp]; exact cell_one_new _ _ _) (by intro u hu; simp at hu; subst hu; rfl) (by decide) (by omega) (by have := (D3.out (.cells #[.int .i64 s.term, .int .i64 s.vote, .int .i64 s.base, .int .i64 s.bterm, (.slice lo s.log.length lc), .int .i64 0] 52)).lt; simp at this ⊢; omega) ?_; intro g cap9 w9 hown hgrow hat hlt9))
            have HF := hide ((D3.out _).push hPl (O3.out _) hown hgrow (by rcases hat with e | e; exact .inl e.symm; exact .inr (fun g' hg' => by simp [Value.ownBlock] at hg'; simp at e ⊢; omega)))
            clear hown hgrow hat
            go_wp2
            go_roundw
            case rel => exact ⟨k', s, lo, lc, us, vs ++ [.slice oR nR cR], ps ++ [PR], aR, sdR, by go_num, by rw [List.length_append]; show k' + (vs.length + 1) ≤ 13; omega, by omega, HF⟩
            case measure => simp [intOf]
          · unfold walV
            have HN9 : Hid (LogR y2 (.slice o9 n9 c9) s'.log us9 ∧ Low (.slice o9 n9 c9) us9 y2.heap.size ∧ Far (.slice o9 n9 c9) us9 d ∧ Far (.slice o9 n9 c9) us9 w.heap.size ∧ (∀ g, u4.ownBlock = some g → Far (.slice o9 n9 c9) us9 g) ∧ stOK s') := hide ⟨L9, W9 D1.out.low, F9 _ (by have := D1.out.dB; omega) D1.out.fd, F9 _ hlt1 D1.out.fX, fun g hg => F9 g (by have := (World.ownsRow.lt D1.out.row g hg).2; omega) (D1.out.fo g hg), take_stOK D1.out.sok hs'⟩
            have hn9 : n9 = s'.log.length := by
              obtain ⟨ao', cap', e', _⟩ := L9.rd.row
              simp only [Value.slice.injEq] at e'
              exact e'.2.1
            subst hn9
            have HNx4 := hide ((D3.out (.cells #[.int .i64 s'.term, .int .i64 s'.vote, .int .i64 s'.base, .int .i64 s'.bterm, (.slice o9 s'.log.length c9), .int .i64 0] 52)).next (HN9.out.1.below ((Below.refl _ _).alloc (Nat.le_refl _) _) (Nat.le_refl _)) (HN9.out.2.1.mono (by simp)) HN9.out.2.2.1 HN9.out.2.2.2.1 HN9.out.2.2.2.2.1 HN9.out.2.2.2.2.2)
            clear L9 W9 F9 hs' b2
            have hsz4 : ((((((((y2.alloc (.cells #[.int .i64 s'.term, .int .i64 s'.vote, .int .i64 s'.base, .int .i64 s'.bterm, (.slice o9 s'.log.length c9), .int .i64 0] 52)).setCell ⟨w.heap.size, 0, none⟩ (.int .i64 s'.term)).setCell ⟨w.heap.size, 1, none⟩ (.int .i64 s'.vote)).setCell ⟨w.heap.size, 2, none⟩ (.int .i64 s'.base)).setCell ⟨w.heap.size, 3, none⟩ (.int .i64 s'.bterm)).setCell ⟨w.heap.size, 4, none⟩ (.slice o9 s'.log.length c9)).setCell ⟨w.heap.size, 5, none⟩ (.int .i64 0)) : World).heap.size = y2.heap.size + 1 := by simp
            have O4 : Hid (Own (((((((y2.alloc (.cells #[.int .i64 s'.term, .int .i64 s'.vote, .int .i64 s'.base, .int .i64 s'.bterm, (.slice o9 s'.log.length c9), .int .i64 0] 52)).setCell ⟨w.heap.size, 0, none⟩ (.int .i64 s'.term)).setCell ⟨w.heap.size, 1, none⟩ (.int .i64 s'.vote)).setCell ⟨w.heap.size, 2, none⟩ (.int .i64 s'.base)).setCell ⟨w.heap.size, 3, none⟩ (.int .i64 s'.bterm)).setCell ⟨w.heap.size, 4, none⟩ (.slice o9 s'.log.length c9)).setCell ⟨w.heap.size, 5, none⟩ (.int .i64 0)) (w.heap.size + 1) (.slice oR nR cR) (frameN PR)) := fits.own_keptR (O3.out _) (six_sets (D3.out _).st _ _ _ _ _ _).2 (fun j hj e => by simp only [Option.some.injEq] at e; have := ((O3.out (.cells #[] 5)).lt j hj).1; omega)
            go_wp2_with (at_builtin; (generalize ((((((((y2.alloc (.cells #[.int .i64 s'.term, .int .i64 s'.vote, .int .i64 s'.base, .int .i64 s'.bterm, (.slice o9 s'.log.length c9), .int .i64 0] 52)).setCell ⟨w.heap.size, 0, none⟩ (.int .i64 s'.term)).setCell ⟨w.heap.size, 1, none⟩ (.int .i64 s'.vote)).setCell ⟨w.heap.size, 2, none⟩ (.int .i64 s'.base)).setCell ⟨w.heap.size, 3, none⟩ (.int .i64 s'.bterm)).setCell ⟨w.heap.size, 4, none⟩ (.slice o9 s'.log.length c9)).setCell ⟨w.heap.size, 5, none⟩ (.int .i64 0)) : World) = y3 at HNx4 O4 hsz4 ⊢; refine wpList_append_lies22 _ rfl _ _ rfl (w.heap.size + 1) u4 vs.length vs rfl (World.ownsRow.alloc HNx4.out.row _) ⟨y2.heap.size + 1, 0, none⟩ 1 1 [.slice oR nR cR] rfl rfl (by rw [← hsz4]; exact cell_one_new _ _ _) (by intro u hu; simp at hu; subst hu; rfl) (by decide) (by omega) (by have := HNx4.out.lt; simp at this ⊢; omega) ?_; intro g cap9 w9 hown hgrow hat hlt9))
            have HF := hide (HNx4.out.push hPl O4.out hown hgrow (by rcases hat with e | e; exact .inl e.symm; exact .inr (fun g' hg' => by simp [Value.ownBlock] at hg'; simp at e; omega)))
            clear hown hgrow hat
            go_wp2
            go_roundw
            case rel => exact ⟨k', s', o9, c9, us9, vs ++ [.slice oR nR cR], ps ++ [PR], aR, sdR, by go_num, by rw [List.length_append]; show k' + (vs.length + 1) ≤ 13; omega, by omega, HF⟩
            case measure => simp [intOf]
      · have HQ4 : Hid (Q w d ao cap xs s (.slice lo s.log.length lc) us u4 vs ps (a + 1 + 1 + 1) w4.drew) := by
          obtain ⟨a1, sd1, ha1, D⟩ := H4.out
          exact hide ⟨a1, sd1, ha1, D.below ⟨rfl, rfl, rfl, Nat.le_refl _, fun _ _ => rfl⟩⟩
        have e42 : w4.drew.cell? ⟨w.heap.size, 2, none⟩ = some (.int .i64 s.base) := c42
        have e44 : w4.drew.cell? ⟨w.heap.size, 4, none⟩ = some (.slice lo s.log.length lc) := c44
        have hwl : IntKind.i64.wrap ((s.log.length : Int) + 1) = (s.log.length : Int) + 1 := by rw [IntKind.wrap_i64]; omega
        go_wp2
        go_region_held_law (fun wx => wx.cell? ⟨w.heap.size, 2, none⟩ = some (.int .i64 s.base) ∧ wx.cell? ⟨w.heap.size, 4, none⟩ = some (.slice lo s.log.length lc)) (first | assumption | exact ⟨by assumption, by assumption⟩)
          (first | (go_at_call 37; refine (HNx.out _ _ _ (by omega) (by omega) HQ4).mono ?_; rintro e w5 ⟨r5, rfl, b5, H5, _, c50, c52, c54⟩; have hw5 : IntKind.i64.wrap (s.base + r5) = s.base + r5 := (by rw [IntKind.wrap_i64]; omega)))
        obtain ⟨a5, sd5, ha5, D5⟩ := H5.out
        obtain ⟨⟨d0, d1, d2, d3, d4, d5⟩, fz5⟩ := D5.cells
        clear D5
        have HT5 := hide (HTm.out w5 _ (s.base + r5) (by omega) (by omega) H5)
        go_wp2_with fail
        refine HT5.out.mono ?_
        rintro e w6 ⟨tb, rfl, htb, H6⟩
        clear d0 d1 d2 d3 d4 d5 fz5
        go_wp2_with fail
        refine (HBs.out _ _ _ _ (by omega) (by omega) (by omega) (by omega) H6).mono ?_
        rintro e w9 ⟨oR, nR, cR, PR, rfl, OR, HR9, c90, c92, c94⟩
        have HO := hide (OR).out.1
        have hPl : PR.length ≤ 40 := (OR).out.2
        obtain ⟨aR, sdR, haR, DR⟩ := (HR9).out
        have HD := hide DR
        have hnR : nR = (frameN PR).length := (le_cap HO.out.rd).1
        have HNx3 : Hid (Calls Try.prog 77 #[.slice oR nR cR, .int .i64 0] w9 fun e w' => ∃ v, e = .returned (.tuple #[v, .int .i64 ((frameN PR).length : Nat), .int .i64 0]) ∧ Own w' w9.heap.size v PR ∧ Below w9.heap.size w9 w') := by
          have h := specs.next_any w9 oR cR 0 (frameN PR) (by rw [← hnR]; exact Own.rdA HO.out) (Nat.zero_le _) (by have := frame_len40 hPl; omega)
          have hw := frameAt_whole PR [] (by omega)
          rw [List.append_nil] at hw
          rw [List.drop_zero, hw, ← hnR] at h
          simp only [Int.natCast_zero, Nat.zero_add, if_true] at h
          rw [← hnR]
          exact h
        clear DR hnR
        go_wp2_with fail
        refine HNx3.out.mono ?_
        rintro e y1 ⟨v1, rfl, OP, b1⟩
        have D1 := hide (HD.out.below b1)
        have O1 := hide (HO.out.below b1 (Nat.le_refl _))
        obtain ⟨oP, cP, eP, _⟩ := OP.rd
        subst eP
        have HTk := hide (takespl.take_any y1 s (.slice lo s.log.length lc) us 0 D1.out.log D1.out.sok.2.1 D1.out.sok.2.2.1 oP cP PR (Own.rdA OP) (by omega))
        unfold walV at HTk
        obtain ⟨⟨c0, c1, c2, c3, c4, c5⟩, fz⟩ := D1.out.cells
        clear b1 OP HNx3 HD HO
        go_wp2_with fail
        refine HTk.out.mono ?_
        rintro e y2 ⟨b2, h2⟩
        have D2 := hide (D1.out.below b2)
        have O2 := hide (O1.out.below b2 (Nat.le_refl _))
        have D3 : Hid (∀ o, RD w (y2.alloc o) d w.heap.size ao cap xs s (.slice lo s.log.length lc) us u4 vs ps aR sdR) := fun o => D2.out.below ((Below.refl _ _).alloc (Nat.le_refl _) o)
        have hlt1 := D1.out.lt
        have hgr := D1.out.gr.size
        have q0 : ∀ o, (y2.alloc o).cell? ⟨w.heap.size, 0, none⟩ = some (.int .i64 s.term) := fun o => (D3.out o).cells.1.1
        have q1 : ∀ o, (y2.alloc o).cell? ⟨w.heap.size, 1, none⟩ = some (.int .i64 s.vote) := fun o => (D3.out o).cells.1.2.1
        have q2 : ∀ o, (y2.alloc o).cell? ⟨w.heap.size, 2, none⟩ = some (.int .i64 s.base) := fun o => (D3.out o).cells.1.2.2.1
        have q3 : ∀ o, (y2.alloc o).cell? ⟨w.heap.size, 3, none⟩ = some (.int .i64 s.bterm) := fun o => (D3.out o).cells.1.2.2.2.1
        have q4 : ∀ o, (y2.alloc o).cell? ⟨w.heap.size, 4, none⟩ = some (.slice lo s.log.length lc) := fun o => (D3.out o).cells.1.2.2.2.2.1
        have q5 : ∀ o, (y2.alloc o).cell? ⟨w.heap.size, 5, none⟩ = some (.int .i64 0) := fun o => (D3.out o).cells.1.2.2.2.2.2
        have qf : ∀ o i, (y2.alloc o).frozen? ⟨w.heap.size, i, none⟩ = false := fun o i => (D3.out o).cells.2 i
        have O3 : Hid (∀ o, Own (y2.alloc o) (w.heap.size + 1) (.slice oR nR cR) (frameN PR)) := fun o => O2.out.below ((Below.refl _ _).alloc (Nat.le_refl _) o) (Nat.le_refl _)
        clear HTk c0 c1 c2 c3 c4 c5 fz
        rcases h2 with ⟨hn, rfl⟩ | ⟨s', o9, n9, c9, us9, hs', rfl, L9, F9, W9⟩
        · unfold walV
          clear b2
          have HRow : Hid (∀ o2 o, ((y2.alloc o2).alloc o).ownsRow (w.heap.size + 1) 22 1 u4 vs.length vs) := fun o2 o => World.ownsRow.alloc (D3.out o2).row o
          go_wp2_with (at_builtin; (refine wpList_append_lies22 _ rfl _ _ rfl (w.heap.size + 1) u4 vs.length vs rfl (HRow.out _ _) ⟨y2.heap.size + 1, 0, none⟩ 1 1 [.slice oR nR cR] rfl rfl (by rw [show y2.heap.size + 1 = (y2.alloc (.cells #[.int .i64 s.term, .int .i64 s.vote, .int .i64 s.base, .int .i64 s.bterm, (.slice lo s.log.length lc), .int .i64 0] 52)).heap.size by simp]; exact cell_one_new _ _ _) (by intro u hu; simp at hu; subst hu; rfl) (by decide) (by omega) (by have := (D3.out (.cells #[.int .i64 s.term, .int .i64 s.vote, .int .i64 s.base, .int .i64 s.bterm, (.slice lo s.log.length lc), .int .i64 0] 52)).lt; simp at this ⊢; omega) ?_; intro g cap9 w9 hown hgrow hat hlt9))
          have HF := hide ((D3.out _).push hPl (O3.out _) hown hgrow (by rcases hat with e | e; exact .inl e.symm; exact .inr (fun g' hg' => by simp [Value.ownBlock] at hg'; simp at e ⊢; omega)))
          clear hown hgrow hat
          go_wp2
          go_roundw
          case rel => exact ⟨k', s, lo, lc, us, vs ++ [.slice oR nR cR], ps ++ [PR], aR, sdR, by go_num, by rw [List.length_append]; show k' + (vs.length + 1) ≤ 13; omega, by omega, HF⟩
          case measure => simp [intOf]
        · unfold walV
          have HN9 : Hid (LogR y2 (.slice o9 n9 c9) s'.log us9 ∧ Low (.slice o9 n9 c9) us9 y2.heap.size ∧ Far (.slice o9 n9 c9) us9 d ∧ Far (.slice o9 n9 c9) us9 w.heap.size ∧ (∀ g, u4.ownBlock = some g → Far (.slice o9 n9 c9) us9 g) ∧ stOK s') := hide ⟨L9, W9 D1.out.low, F9 _ (by have := D1.out.dB; omega) D1.out.fd, F9 _ hlt1 D1.out.fX, fun g hg => F9 g (by have := (World.ownsRow.lt D1.out.row g hg).2; omega) (D1.out.fo g hg), take_stOK D1.out.sok hs'⟩
          have hn9 : n9 = s'.log.length := by
            obtain ⟨ao', cap', e', _⟩ := L9.rd.row
            simp only [Value.slice.injEq] at e'
            exact e'.2.1
          subst hn9
          have HNx4 := hide ((D3.out (.cells #[.int .i64 s'.term, .int .i64 s'.vote, .int .i64 s'.base, .int .i64 s'.bterm, (.slice o9 s'.log.length c9), .int .i64 0] 52)).next (HN9.out.1.below ((Below.refl _ _).alloc (Nat.le_refl _) _) (Nat.le_refl _)) (HN9.out.2.1.mono (by simp)) HN9.out.2.2.1 HN9.out.2.2.2.1 HN9.out.2.2.2.2.1 HN9.out.2.2.2.2.2)
          clear L9 W9 F9 hs' b2
          have hsz4 : ((((((((y2.alloc (.cells #[.int .i64 s'.term, .int .i64 s'.vote, .int .i64 s'.base, .int .i64 s'.bterm, (.slice o9 s'.log.length c9), .int .i64 0] 52)).setCell ⟨w.heap.size, 0, none⟩ (.int .i64 s'.term)).setCell ⟨w.heap.size, 1, none⟩ (.int .i64 s'.vote)).setCell ⟨w.heap.size, 2, none⟩ (.int .i64 s'.base)).setCell ⟨w.heap.size, 3, none⟩ (.int .i64 s'.bterm)).setCell ⟨w.heap.size, 4, none⟩ (.slice o9 s'.log.length c9)).setCell ⟨w.heap.size, 5, none⟩ (.int .i64 0)) : World).heap.size = y2.heap.size + 1 := by simp
          have O4 : Hid (Own (((((((y2.alloc (.cells #[.int .i64 s'.term, .int .i64 s'.vote, .int .i64 s'.base, .int .i64 s'.bterm, (.slice o9 s'.log.length c9), .int .i64 0] 52)).setCell ⟨w.heap.size, 0, none⟩ (.int .i64 s'.term)).setCell ⟨w.heap.size, 1, none⟩ (.int .i64 s'.vote)).setCell ⟨w.heap.size, 2, none⟩ (.int .i64 s'.base)).setCell ⟨w.heap.size, 3, none⟩ (.int .i64 s'.bterm)).setCell ⟨w.heap.size, 4, none⟩ (.slice o9 s'.log.length c9)).setCell ⟨w.heap.size, 5, none⟩ (.int .i64 0)) (w.heap.size + 1) (.slice oR nR cR) (frameN PR)) := fits.own_keptR (O3.out _) (six_sets (D3.out _).st _ _ _ _ _ _).2 (fun j hj e => by simp only [Option.some.injEq] at e; have := ((O3.out (.cells #[] 5)).lt j hj).1; omega)
          go_wp2_with (at_builtin; (generalize ((((((((y2.alloc (.cells #[.int .i64 s'.term, .int .i64 s'.vote, .int .i64 s'.base, .int .i64 s'.bterm, (.slice o9 s'.log.length c9), .int .i64 0] 52)).setCell ⟨w.heap.size, 0, none⟩ (.int .i64 s'.term)).setCell ⟨w.heap.size, 1, none⟩ (.int .i64 s'.vote)).setCell ⟨w.heap.size, 2, none⟩ (.int .i64 s'.base)).setCell ⟨w.heap.size, 3, none⟩ (.int .i64 s'.bterm)).setCell ⟨w.heap.size, 4, none⟩ (.slice o9 s'.log.length c9)).setCell ⟨w.heap.size, 5, none⟩ (.int .i64 0)) : World) = y3 at HNx4 O4 hsz4 ⊢; refine wpList_append_lies22 _ rfl _ _ rfl (w.heap.size + 1) u4 vs.length vs rfl (World.ownsRow.alloc HNx4.out.row _) ⟨y2.heap.size + 1, 0, none⟩ 1 1 [.slice oR nR cR] rfl rfl (by rw [← hsz4]; exact cell_one_new _ _ _) (by intro u hu; simp at hu; subst hu; rfl) (by decide) (by omega) (by have := HNx4.out.lt; simp at this ⊢; omega) ?_; intro g cap9 w9 hown hgrow hat hlt9))
          have HF := hide (HNx4.out.push hPl O4.out hown hgrow (by rcases hat with e | e; exact .inl e.symm; exact .inr (fun g' hg' => by simp [Value.ownBlock] at hg'; simp at e; omega)))
          clear hown hgrow hat
          go_wp2
          go_roundw
          case rel => exact ⟨k', s', o9, c9, us9, vs ++ [.slice oR nR cR], ps ++ [PR], aR, sdR, by go_num, by rw [List.length_append]; show k' + (vs.length + 1) ≤ 13; omega, by omega, HF⟩
          case measure => simp [intOf]
      · have HC4 := hide (HCh.out w4 (a + 1 + 1 + 1) (by omega) H4)
        go_wp2_with fail
        refine HC4.out.mono ?_
        rintro e w5 ⟨bb, rfl, H5, K5, c50, c52, c54⟩
        cases bb with
        | true =>
          have HB := hide (HBy.out w5 (a + 1 + 1 + 1 + 1) 6 (by omega) (by omega) H5)
          go_wp2_with fail
          refine HB.out.mono ?_
          rintro e w8 ⟨o8, c8, ys8, rfl, O8, hy8, H8, c80, c82, c84⟩
          have HF8 := hide (HFr.out w8 _ 45 #[.slice o8 ys8.length c8] ys8 (by omega) H8 (l01Frame_own w8 _ ys8 (by omega) (Own.rdA O8.out)))
          go_wp2_with fail
          refine HF8.out.mono ?_
          rintro e w9 ⟨oR, nR, cR, rfl, OR, HR9, c90, c92, c94⟩
          have HO := hide (OR).out.1
          have hPl : ys8.length ≤ 40 := (OR).out.2
          obtain ⟨aR, sdR, haR, DR⟩ := (HR9).out
          have HD := hide DR
          have hnR : nR = (frameN ys8).length := (le_cap HO.out.rd).1
          have HNx3 : Hid (Calls Try.prog 77 #[.slice oR nR cR, .int .i64 0] w9 fun e w' => ∃ v, e = .returned (.tuple #[v, .int .i64 ((frameN ys8).length : Nat), .int .i64 0]) ∧ Own w' w9.heap.size v ys8 ∧ Below w9.heap.size w9 w') := by
            have h := specs.next_any w9 oR cR 0 (frameN ys8) (by rw [← hnR]; exact Own.rdA HO.out) (Nat.zero_le _) (by have := frame_len40 hPl; omega)
            have hw := frameAt_whole ys8 [] (by omega)
            rw [List.append_nil] at hw
            rw [List.drop_zero, hw, ← hnR] at h
            simp only [Int.natCast_zero, Nat.zero_add, if_true] at h
            rw [← hnR]
            exact h
          clear DR hnR
          go_wp2_with fail
          refine HNx3.out.mono ?_
          rintro e y1 ⟨v1, rfl, OP, b1⟩
          have D1 := hide (HD.out.below b1)
          have O1 := hide (HO.out.below b1 (Nat.le_refl _))
          obtain ⟨oP, cP, eP, _⟩ := OP.rd
          subst eP
          have HTk := hide (takespl.take_any y1 s (.slice lo s.log.length lc) us 0 D1.out.log D1.out.sok.2.1 D1.out.sok.2.2.1 oP cP ys8 (Own.rdA OP) (by omega))
          unfold walV at HTk
          obtain ⟨⟨c0, c1, c2, c3, c4, c5⟩, fz⟩ := D1.out.cells
          clear b1 OP HNx3 HD HO
          go_wp2_with fail
          refine HTk.out.mono ?_
          rintro e y2 ⟨b2, h2⟩
          have D2 := hide (D1.out.below b2)
          have O2 := hide (O1.out.below b2 (Nat.le_refl _))
          have D3 : Hid (∀ o, RD w (y2.alloc o) d w.heap.size ao cap xs s (.slice lo s.log.length lc) us u4 vs ps aR sdR) := fun o => D2.out.below ((Below.refl _ _).alloc (Nat.le_refl _) o)
          have hlt1 := D1.out.lt
          have hgr := D1.out.gr.size
          have q0 : ∀ o, (y2.alloc o).cell? ⟨w.heap.size, 0, none⟩ = some (.int .i64 s.term) := fun o => (D3.out o).cells.1.1
          have q1 : ∀ o, (y2.alloc o).cell? ⟨w.heap.size, 1, none⟩ = some (.int .i64 s.vote) := fun o => (D3.out o).cells.1.2.1
          have q2 : ∀ o, (y2.alloc o).cell? ⟨w.heap.size, 2, none⟩ = some (.int .i64 s.base) := fun o => (D3.out o).cells.1.2.2.1
          have q3 : ∀ o, (y2.alloc o).cell? ⟨w.heap.size, 3, none⟩ = some (.int .i64 s.bterm) := fun o => (D3.out o).cells.1.2.2.2.1
          have q4 : ∀ o, (y2.alloc o).cell? ⟨w.heap.size, 4, none⟩ = some (.slice lo s.log.length lc) := fun o => (D3.out o).cells.1.2.2.2.2.1
          have q5 : ∀ o, (y2.alloc o).cell? ⟨w.heap.size, 5, none⟩ = some (.int .i64 0) := fun o => (D3.out o).cells.1.2.2.2.2.2
          have qf : ∀ o i, (y2.alloc o).frozen? ⟨w.heap.size, i, none⟩ = false := fun o i => (D3.out o).cells.2 i
          have O3 : Hid (∀ o, Own (y2.alloc o) (w.heap.size + 1) (.slice oR nR cR) (frameN ys8)) := fun o => O2.out.below ((Below.refl _ _).alloc (Nat.le_refl _) o) (Nat.le_refl _)
          clear HTk c0 c1 c2 c3 c4 c5 fz
          rcases h2 with ⟨hn, rfl⟩ | ⟨s', o9, n9, c9, us9, hs', rfl, L9, F9, W9⟩
          · unfold walV
            clear b2
            have HRow : Hid (∀ o2 o, ((y2.alloc o2).alloc o).ownsRow (w.heap.size + 1) 22 1 u4 vs.length vs) := fun o2 o => World.ownsRow.alloc (D3.out o2).row o
            go_wp2_with (at_builtin; (refine wpList_append_lies22 _ rfl _ _ rfl (w.heap.size + 1) u4 vs.length vs rfl (HRow.out _ _) ⟨y2.heap.size + 1, 0, none⟩ 1 1 [.slice oR nR cR] rfl rfl (by rw [show y2.heap.size + 1 = (y2.alloc (.cells #[.int .i64 s.term, .int .i64 s.vote, .int .i64 s.base, .int .i64 s.bterm, (.slice lo s.log.length lc), .int .i64 0] 52)).heap.size by simp]; exact cell_one_new _ _ _) (by intro u hu; simp at hu; subst hu; rfl) (by decide) (by omega) (by have := (D3.out (.cells #[.int .i64 s.term, .int .i64 s.vote, .int .i64 s.base, .int .i64 s.bterm, (.slice lo s.log.length lc), .int .i64 0] 52)).lt; simp at this ⊢; omega) ?_; intro g cap9 w9 hown hgrow hat hlt9))
            have HF := hide ((D3.out _).push hPl (O3.out _) hown hgrow (by rcases hat with e | e; exact .inl e.symm; exact .inr (fun g' hg' => by simp [Value.ownBlock] at hg'; simp at e ⊢; omega)))
            clear hown hgrow hat
            go_wp2
            go_roundw
            case rel => exact ⟨k', s, lo, lc, us, vs ++ [.slice oR nR cR], ps ++ [ys8], aR, sdR, by go_num, by rw [List.length_append]; show k' + (vs.length + 1) ≤ 13; omega, by omega, HF⟩
            case measure => simp [intOf]
          · unfold walV
            have HN9 : Hid (LogR y2 (.slice o9 n9 c9) s'.log us9 ∧ Low (.slice o9 n9 c9) us9 y2.heap.size ∧ Far (.slice o9 n9 c9) us9 d ∧ Far (.slice o9 n9 c9) us9 w.heap.size ∧ (∀ g, u4.ownBlock = some g → Far (.slice o9 n9 c9) us9 g) ∧ stOK s') := hide ⟨L9, W9 D1.out.low, F9 _ (by have := D1.out.dB; omega) D1.out.fd, F9 _ hlt1 D1.out.fX, fun g hg => F9 g (by have := (World.ownsRow.lt D1.out.row g hg).2; omega) (D1.out.fo g hg), take_stOK D1.out.sok hs'⟩
            have hn9 : n9 = s'.log.length := by
              obtain ⟨ao', cap', e', _⟩ := L9.rd.row
              simp only [Value.slice.injEq] at e'
              exact e'.2.1
            subst hn9
            have HNx4 := hide ((D3.out (.cells #[.int .i64 s'.term, .int .i64 s'.vote, .int .i64 s'.base, .int .i64 s'.bterm, (.slice o9 s'.log.length c9), .int .i64 0] 52)).next (HN9.out.1.below ((Below.refl _ _).alloc (Nat.le_refl _) _) (Nat.le_refl _)) (HN9.out.2.1.mono (by simp)) HN9.out.2.2.1 HN9.out.2.2.2.1 HN9.out.2.2.2.2.1 HN9.out.2.2.2.2.2)
            clear L9 W9 F9 hs' b2
            have hsz4 : ((((((((y2.alloc (.cells #[.int .i64 s'.term, .int .i64 s'.vote, .int .i64 s'.base, .int .i64 s'.bterm, (.slice o9 s'.log.length c9), .int .i64 0] 52)).setCell ⟨w.heap.size, 0, none⟩ (.int .i64 s'.term)).setCell ⟨w.heap.size, 1, none⟩ (.int .i64 s'.vote)).setCell ⟨w.heap.size, 2, none⟩ (.int .i64 s'.base)).setCell ⟨w.heap.size, 3, none⟩ (.int .i64 s'.bterm)).setCell ⟨w.heap.size, 4, none⟩ (.slice o9 s'.log.length c9)).setCell ⟨w.heap.size, 5, none⟩ (.int .i64 0)) : World).heap.size = y2.heap.size + 1 := by simp
            have O4 : Hid (Own (((((((y2.alloc (.cells #[.int .i64 s'.term, .int .i64 s'.vote, .int .i64 s'.base, .int .i64 s'.bterm, (.slice o9 s'.log.length c9), .int .i64 0] 52)).setCell ⟨w.heap.size, 0, none⟩ (.int .i64 s'.term)).setCell ⟨w.heap.size, 1, none⟩ (.int .i64 s'.vote)).setCell ⟨w.heap.size, 2, none⟩ (.int .i64 s'.base)).setCell ⟨w.heap.size, 3, none⟩ (.int .i64 s'.bterm)).setCell ⟨w.heap.size, 4, none⟩ (.slice o9 s'.log.length c9)).setCell ⟨w.heap.size, 5, none⟩ (.int .i64 0)) (w.heap.size + 1) (.slice oR nR cR) (frameN ys8)) := fits.own_keptR (O3.out _) (six_sets (D3.out _).st _ _ _ _ _ _).2 (fun j hj e => by simp only [Option.some.injEq] at e; have := ((O3.out (.cells #[] 5)).lt j hj).1; omega)
            go_wp2_with (at_builtin; (generalize ((((((((y2.alloc (.cells #[.int .i64 s'.term, .int .i64 s'.vote, .int .i64 s'.base, .int .i64 s'.bterm, (.slice o9 s'.log.length c9), .int .i64 0] 52)).setCell ⟨w.heap.size, 0, none⟩ (.int .i64 s'.term)).setCell ⟨w.heap.size, 1, none⟩ (.int .i64 s'.vote)).setCell ⟨w.heap.size, 2, none⟩ (.int .i64 s'.base)).setCell ⟨w.heap.size, 3, none⟩ (.int .i64 s'.bterm)).setCell ⟨w.heap.size, 4, none⟩ (.slice o9 s'.log.length c9)).setCell ⟨w.heap.size, 5, none⟩ (.int .i64 0)) : World) = y3 at HNx4 O4 hsz4 ⊢; refine wpList_append_lies22 _ rfl _ _ rfl (w.heap.size + 1) u4 vs.length vs rfl (World.ownsRow.alloc HNx4.out.row _) ⟨y2.heap.size + 1, 0, none⟩ 1 1 [.slice oR nR cR] rfl rfl (by rw [← hsz4]; exact cell_one_new _ _ _) (by intro u hu; simp at hu; subst hu; rfl) (by decide) (by omega) (by have := HNx4.out.lt; simp at this ⊢; omega) ?_; intro g cap9 w9 hown hgrow hat hlt9))
            have HF := hide (HNx4.out.push hPl O4.out hown hgrow (by rcases hat with e | e; exact .inl e.symm; exact .inr (fun g' hg' => by simp [Value.ownBlock] at hg'; simp at e; omega)))
            clear hown hgrow hat
            go_wp2
            go_roundw
            case rel => exact ⟨k', s', o9, c9, us9, vs ++ [.slice oR nR cR], ps ++ [ys8], aR, sdR, by go_num, by rw [List.length_append]; show k' + (vs.length + 1) ≤ 13; omega, by omega, HF⟩
            case measure => simp [intOf]
        | false =>
          have O5' : Hid (Own w5 (w.heap.size + 1) (.slice o3 n3 c3v) (frameN P3) ∧ P3.length ≤ 40) := hide ⟨K5.out _ _ (K4.out _ _ O3.out.1), O3.out.2⟩
          have HO := hide (O5').out.1
          have hPl : P3.length ≤ 40 := (O5').out.2
          obtain ⟨aR, sdR, haR, DR⟩ := (H5).out
          have HD := hide DR
          have hnR : n3 = (frameN P3).length := (le_cap HO.out.rd).1
          have HNx3 : Hid (Calls Try.prog 77 #[.slice o3 n3 c3v, .int .i64 0] w5 fun e w' => ∃ v, e = .returned (.tuple #[v, .int .i64 ((frameN P3).length : Nat), .int .i64 0]) ∧ Own w' w5.heap.size v P3 ∧ Below w5.heap.size w5 w') := by
            have h := specs.next_any w5 o3 c3v 0 (frameN P3) (by rw [← hnR]; exact Own.rdA HO.out) (Nat.zero_le _) (by have := frame_len40 hPl; omega)
            have hw := frameAt_whole P3 [] (by omega)
            rw [List.append_nil] at hw
            rw [List.drop_zero, hw, ← hnR] at h
            simp only [Int.natCast_zero, Nat.zero_add, if_true] at h
            rw [← hnR]
            exact h
          clear DR hnR
          go_wp2_with fail
          refine HNx3.out.mono ?_
          rintro e y1 ⟨v1, rfl, OP, b1⟩
          have D1 := hide (HD.out.below b1)
          have O1 := hide (HO.out.below b1 (Nat.le_refl _))
          obtain ⟨oP, cP, eP, _⟩ := OP.rd
          subst eP
          have HTk := hide (takespl.take_any y1 s (.slice lo s.log.length lc) us 0 D1.out.log D1.out.sok.2.1 D1.out.sok.2.2.1 oP cP P3 (Own.rdA OP) (by omega))
          unfold walV at HTk
          obtain ⟨⟨c0, c1, c2, c3, c4, c5⟩, fz⟩ := D1.out.cells
          clear b1 OP HNx3 HD HO
          go_wp2_with fail
          refine HTk.out.mono ?_
          rintro e y2 ⟨b2, h2⟩
          have D2 := hide (D1.out.below b2)
          have O2 := hide (O1.out.below b2 (Nat.le_refl _))
          have D3 : Hid (∀ o, RD w (y2.alloc o) d w.heap.size ao cap xs s (.slice lo s.log.length lc) us u4 vs ps aR sdR) := fun o => D2.out.below ((Below.refl _ _).alloc (Nat.le_refl _) o)
          have hlt1 := D1.out.lt
          have hgr := D1.out.gr.size
          have q0 : ∀ o, (y2.alloc o).cell? ⟨w.heap.size, 0, none⟩ = some (.int .i64 s.term) := fun o => (D3.out o).cells.1.1
          have q1 : ∀ o, (y2.alloc o).cell? ⟨w.heap.size, 1, none⟩ = some (.int .i64 s.vote) := fun o => (D3.out o).cells.1.2.1
          have q2 : ∀ o, (y2.alloc o).cell? ⟨w.heap.size, 2, none⟩ = some (.int .i64 s.base) := fun o => (D3.out o).cells.1.2.2.1
          have q3 : ∀ o, (y2.alloc o).cell? ⟨w.heap.size, 3, none⟩ = some (.int .i64 s.bterm) := fun o => (D3.out o).cells.1.2.2.2.1
          have q4 : ∀ o, (y2.alloc o).cell? ⟨w.heap.size, 4, none⟩ = some (.slice lo s.log.length lc) := fun o => (D3.out o).cells.1.2.2.2.2.1
          have q5 : ∀ o, (y2.alloc o).cell? ⟨w.heap.size, 5, none⟩ = some (.int .i64 0) := fun o => (D3.out o).cells.1.2.2.2.2.2
          have qf : ∀ o i, (y2.alloc o).frozen? ⟨w.heap.size, i, none⟩ = false := fun o i => (D3.out o).cells.2 i
          have O3 : Hid (∀ o, Own (y2.alloc o) (w.heap.size + 1) (.slice o3 n3 c3v) (frameN P3)) := fun o => O2.out.below ((Below.refl _ _).alloc (Nat.le_refl _) o) (Nat.le_refl _)
          clear HTk c0 c1 c2 c3 c4 c5 fz
          rcases h2 with ⟨hn, rfl⟩ | ⟨s', o9, n9, c9, us9, hs', rfl, L9, F9, W9⟩
          · unfold walV
            clear b2
            have HRow : Hid (∀ o2 o, ((y2.alloc o2).alloc o).ownsRow (w.heap.size + 1) 22 1 u4 vs.length vs) := fun o2 o => World.ownsRow.alloc (D3.out o2).row o
            go_wp2_with (at_builtin; (refine wpList_append_lies22 _ rfl _ _ rfl (w.heap.size + 1) u4 vs.length vs rfl (HRow.out _ _) ⟨y2.heap.size + 1, 0, none⟩ 1 1 [.slice o3 n3 c3v] rfl rfl (by rw [show y2.heap.size + 1 = (y2.alloc (.cells #[.int .i64 s.term, .int .i64 s.vote, .int .i64 s.base, .int .i64 s.bterm, (.slice lo s.log.length lc), .int .i64 0] 52)).heap.size by simp]; exact cell_one_new _ _ _) (by intro u hu; simp at hu; subst hu; rfl) (by decide) (by omega) (by have := (D3.out (.cells #[.int .i64 s.term, .int .i64 s.vote, .int .i64 s.base, .int .i64 s.bterm, (.slice lo s.log.length lc), .int .i64 0] 52)).lt; simp at this ⊢; omega) ?_; intro g cap9 w9 hown hgrow hat hlt9))
            have HF := hide ((D3.out _).push hPl (O3.out _) hown hgrow (by rcases hat with e | e; exact .inl e.symm; exact .inr (fun g' hg' => by simp [Value.ownBlock] at hg'; simp at e ⊢; omega)))
            clear hown hgrow hat
            go_wp2
            go_roundw
            case rel => exact ⟨k', s, lo, lc, us, vs ++ [.slice o3 n3 c3v], ps ++ [P3], aR, sdR, by go_num, by rw [List.length_append]; show k' + (vs.length + 1) ≤ 13; omega, by omega, HF⟩
            case measure => simp [intOf]
          · unfold walV
            have HN9 : Hid (LogR y2 (.slice o9 n9 c9) s'.log us9 ∧ Low (.slice o9 n9 c9) us9 y2.heap.size ∧ Far (.slice o9 n9 c9) us9 d ∧ Far (.slice o9 n9 c9) us9 w.heap.size ∧ (∀ g, u4.ownBlock = some g → Far (.slice o9 n9 c9) us9 g) ∧ stOK s') := hide ⟨L9, W9 D1.out.low, F9 _ (by have := D1.out.dB; omega) D1.out.fd, F9 _ hlt1 D1.out.fX, fun g hg => F9 g (by have := (World.ownsRow.lt D1.out.row g hg).2; omega) (D1.out.fo g hg), take_stOK D1.out.sok hs'⟩
            have hn9 : n9 = s'.log.length := by
              obtain ⟨ao', cap', e', _⟩ := L9.rd.row
              simp only [Value.slice.injEq] at e'
              exact e'.2.1
            subst hn9
            have HNx4 := hide ((D3.out (.cells #[.int .i64 s'.term, .int .i64 s'.vote, .int .i64 s'.base, .int .i64 s'.bterm, (.slice o9 s'.log.length c9), .int .i64 0] 52)).next (HN9.out.1.below ((Below.refl _ _).alloc (Nat.le_refl _) _) (Nat.le_refl _)) (HN9.out.2.1.mono (by simp)) HN9.out.2.2.1 HN9.out.2.2.2.1 HN9.out.2.2.2.2.1 HN9.out.2.2.2.2.2)
            clear L9 W9 F9 hs' b2
            have hsz4 : ((((((((y2.alloc (.cells #[.int .i64 s'.term, .int .i64 s'.vote, .int .i64 s'.base, .int .i64 s'.bterm, (.slice o9 s'.log.length c9), .int .i64 0] 52)).setCell ⟨w.heap.size, 0, none⟩ (.int .i64 s'.term)).setCell ⟨w.heap.size, 1, none⟩ (.int .i64 s'.vote)).setCell ⟨w.heap.size, 2, none⟩ (.int .i64 s'.base)).setCell ⟨w.heap.size, 3, none⟩ (.int .i64 s'.bterm)).setCell ⟨w.heap.size, 4, none⟩ (.slice o9 s'.log.length c9)).setCell ⟨w.heap.size, 5, none⟩ (.int .i64 0)) : World).heap.size = y2.heap.size + 1 := by simp
            have O4 : Hid (Own (((((((y2.alloc (.cells #[.int .i64 s'.term, .int .i64 s'.vote, .int .i64 s'.base, .int .i64 s'.bterm, (.slice o9 s'.log.length c9), .int .i64 0] 52)).setCell ⟨w.heap.size, 0, none⟩ (.int .i64 s'.term)).setCell ⟨w.heap.size, 1, none⟩ (.int .i64 s'.vote)).setCell ⟨w.heap.size, 2, none⟩ (.int .i64 s'.base)).setCell ⟨w.heap.size, 3, none⟩ (.int .i64 s'.bterm)).setCell ⟨w.heap.size, 4, none⟩ (.slice o9 s'.log.length c9)).setCell ⟨w.heap.size, 5, none⟩ (.int .i64 0)) (w.heap.size + 1) (.slice o3 n3 c3v) (frameN P3)) := fits.own_keptR (O3.out _) (six_sets (D3.out _).st _ _ _ _ _ _).2 (fun j hj e => by simp only [Option.some.injEq] at e; have := ((O3.out (.cells #[] 5)).lt j hj).1; omega)
            go_wp2_with (at_builtin; (generalize ((((((((y2.alloc (.cells #[.int .i64 s'.term, .int .i64 s'.vote, .int .i64 s'.base, .int .i64 s'.bterm, (.slice o9 s'.log.length c9), .int .i64 0] 52)).setCell ⟨w.heap.size, 0, none⟩ (.int .i64 s'.term)).setCell ⟨w.heap.size, 1, none⟩ (.int .i64 s'.vote)).setCell ⟨w.heap.size, 2, none⟩ (.int .i64 s'.base)).setCell ⟨w.heap.size, 3, none⟩ (.int .i64 s'.bterm)).setCell ⟨w.heap.size, 4, none⟩ (.slice o9 s'.log.length c9)).setCell ⟨w.heap.size, 5, none⟩ (.int .i64 0)) : World) = y3 at HNx4 O4 hsz4 ⊢; refine wpList_append_lies22 _ rfl _ _ rfl (w.heap.size + 1) u4 vs.length vs rfl (World.ownsRow.alloc HNx4.out.row _) ⟨y2.heap.size + 1, 0, none⟩ 1 1 [.slice o3 n3 c3v] rfl rfl (by rw [← hsz4]; exact cell_one_new _ _ _) (by intro u hu; simp at hu; subst hu; rfl) (by decide) (by omega) (by have := HNx4.out.lt; simp at this ⊢; omega) ?_; intro g cap9 w9 hown hgrow hat hlt9))
            have HF := hide (HNx4.out.push hPl O4.out hown hgrow (by rcases hat with e | e; exact .inl e.symm; exact .inr (fun g' hg' => by simp [Value.ownBlock] at hg'; simp at e; omega)))
            clear hown hgrow hat
            go_wp2
            go_roundw
            case rel => exact ⟨k', s', o9, c9, us9, vs ++ [.slice o3 n3 c3v], ps ++ [P3], aR, sdR, by go_num, by rw [List.length_append]; show k' + (vs.length + 1) ≤ 13; omega, by omega, HF⟩
            case measure => simp [intOf]
      · have ne0 : ¬ r8 = 0 := by omega
        have ne1 : ¬ r8 = 1 := by omega
        have ne2 : ¬ r8 = 2 := by omega
        have ne3 : ¬ r8 = 3 := by omega
        have ne4 : ¬ r8 = 4 := by omega
        have ne5 : ¬ r8 = 5 := by omega
        have O4' : Hid (Own w4 (w.heap.size + 1) (.slice o3 n3 c3v) (frameN P3) ∧ P3.length ≤ 40) := hide ⟨K4.out _ _ O3.out.1, O3.out.2⟩
        have HO := hide (O4').out.1
        have hPl : P3.length ≤ 40 := (O4').out.2
        obtain ⟨aR, sdR, haR, DR⟩ := (H4).out
        have HD := hide DR
        have hnR : n3 = (frameN P3).length := (le_cap HO.out.rd).1
        have HNx3 : Hid (Calls Try.prog 77 #[.slice o3 n3 c3v, .int .i64 0] w4 fun e w' => ∃ v, e = .returned (.tuple #[v, .int .i64 ((frameN P3).length : Nat), .int .i64 0]) ∧ Own w' w4.heap.size v P3 ∧ Below w4.heap.size w4 w') := by
          have h := specs.next_any w4 o3 c3v 0 (frameN P3) (by rw [← hnR]; exact Own.rdA HO.out) (Nat.zero_le _) (by have := frame_len40 hPl; omega)
          have hw := frameAt_whole P3 [] (by omega)
          rw [List.append_nil] at hw
          rw [List.drop_zero, hw, ← hnR] at h
          simp only [Int.natCast_zero, Nat.zero_add, if_true] at h
          rw [← hnR]
          exact h
        clear DR hnR
        go_wp2_with fail
        refine HNx3.out.mono ?_
        rintro e y1 ⟨v1, rfl, OP, b1⟩
        have D1 := hide (HD.out.below b1)
        have O1 := hide (HO.out.below b1 (Nat.le_refl _))
        obtain ⟨oP, cP, eP, _⟩ := OP.rd
        subst eP
        have HTk := hide (takespl.take_any y1 s (.slice lo s.log.length lc) us 0 D1.out.log D1.out.sok.2.1 D1.out.sok.2.2.1 oP cP P3 (Own.rdA OP) (by omega))
        unfold walV at HTk
        obtain ⟨⟨c0, c1, c2, c3, c4, c5⟩, fz⟩ := D1.out.cells
        clear b1 OP HNx3 HD HO
        go_wp2_with fail
        refine HTk.out.mono ?_
        rintro e y2 ⟨b2, h2⟩
        have D2 := hide (D1.out.below b2)
        have O2 := hide (O1.out.below b2 (Nat.le_refl _))
        have D3 : Hid (∀ o, RD w (y2.alloc o) d w.heap.size ao cap xs s (.slice lo s.log.length lc) us u4 vs ps aR sdR) := fun o => D2.out.below ((Below.refl _ _).alloc (Nat.le_refl _) o)
        have hlt1 := D1.out.lt
        have hgr := D1.out.gr.size
        have q0 : ∀ o, (y2.alloc o).cell? ⟨w.heap.size, 0, none⟩ = some (.int .i64 s.term) := fun o => (D3.out o).cells.1.1
        have q1 : ∀ o, (y2.alloc o).cell? ⟨w.heap.size, 1, none⟩ = some (.int .i64 s.vote) := fun o => (D3.out o).cells.1.2.1
        have q2 : ∀ o, (y2.alloc o).cell? ⟨w.heap.size, 2, none⟩ = some (.int .i64 s.base) := fun o => (D3.out o).cells.1.2.2.1
        have q3 : ∀ o, (y2.alloc o).cell? ⟨w.heap.size, 3, none⟩ = some (.int .i64 s.bterm) := fun o => (D3.out o).cells.1.2.2.2.1
        have q4 : ∀ o, (y2.alloc o).cell? ⟨w.heap.size, 4, none⟩ = some (.slice lo s.log.length lc) := fun o => (D3.out o).cells.1.2.2.2.2.1
        have q5 : ∀ o, (y2.alloc o).cell? ⟨w.heap.size, 5, none⟩ = some (.int .i64 0) := fun o => (D3.out o).cells.1.2.2.2.2.2
        have qf : ∀ o i, (y2.alloc o).frozen? ⟨w.heap.size, i, none⟩ = false := fun o i => (D3.out o).cells.2 i
        have O3 : Hid (∀ o, Own (y2.alloc o) (w.heap.size + 1) (.slice o3 n3 c3v) (frameN P3)) := fun o => O2.out.below ((Below.refl _ _).alloc (Nat.le_refl _) o) (Nat.le_refl _)
        clear HTk c0 c1 c2 c3 c4 c5 fz
        rcases h2 with ⟨hn, rfl⟩ | ⟨s', o9, n9, c9, us9, hs', rfl, L9, F9, W9⟩
        · unfold walV
          clear b2
          have HRow : Hid (∀ o2 o, ((y2.alloc o2).alloc o).ownsRow (w.heap.size + 1) 22 1 u4 vs.length vs) := fun o2 o => World.ownsRow.alloc (D3.out o2).row o
          go_wp2_with (at_builtin; (refine wpList_append_lies22 _ rfl _ _ rfl (w.heap.size + 1) u4 vs.length vs rfl (HRow.out _ _) ⟨y2.heap.size + 1, 0, none⟩ 1 1 [.slice o3 n3 c3v] rfl rfl (by rw [show y2.heap.size + 1 = (y2.alloc (.cells #[.int .i64 s.term, .int .i64 s.vote, .int .i64 s.base, .int .i64 s.bterm, (.slice lo s.log.length lc), .int .i64 0] 52)).heap.size by simp]; exact cell_one_new _ _ _) (by intro u hu; simp at hu; subst hu; rfl) (by decide) (by omega) (by have := (D3.out (.cells #[.int .i64 s.term, .int .i64 s.vote, .int .i64 s.base, .int .i64 s.bterm, (.slice lo s.log.length lc), .int .i64 0] 52)).lt; simp at this ⊢; omega) ?_; intro g cap9 w9 hown hgrow hat hlt9))
          have HF := hide ((D3.out _).push hPl (O3.out _) hown hgrow (by rcases hat with e | e; exact .inl e.symm; exact .inr (fun g' hg' => by simp [Value.ownBlock] at hg'; simp at e ⊢; omega)))
          clear hown hgrow hat
          go_wp2
          go_roundw
          case rel => exact ⟨k', s, lo, lc, us, vs ++ [.slice o3 n3 c3v], ps ++ [P3], aR, sdR, by go_num, by rw [List.length_append]; show k' + (vs.length + 1) ≤ 13; omega, by omega, HF⟩
          case measure => simp [intOf]
        · unfold walV
          have HN9 : Hid (LogR y2 (.slice o9 n9 c9) s'.log us9 ∧ Low (.slice o9 n9 c9) us9 y2.heap.size ∧ Far (.slice o9 n9 c9) us9 d ∧ Far (.slice o9 n9 c9) us9 w.heap.size ∧ (∀ g, u4.ownBlock = some g → Far (.slice o9 n9 c9) us9 g) ∧ stOK s') := hide ⟨L9, W9 D1.out.low, F9 _ (by have := D1.out.dB; omega) D1.out.fd, F9 _ hlt1 D1.out.fX, fun g hg => F9 g (by have := (World.ownsRow.lt D1.out.row g hg).2; omega) (D1.out.fo g hg), take_stOK D1.out.sok hs'⟩
          have hn9 : n9 = s'.log.length := by
            obtain ⟨ao', cap', e', _⟩ := L9.rd.row
            simp only [Value.slice.injEq] at e'
            exact e'.2.1
          subst hn9
          have HNx4 := hide ((D3.out (.cells #[.int .i64 s'.term, .int .i64 s'.vote, .int .i64 s'.base, .int .i64 s'.bterm, (.slice o9 s'.log.length c9), .int .i64 0] 52)).next (HN9.out.1.below ((Below.refl _ _).alloc (Nat.le_refl _) _) (Nat.le_refl _)) (HN9.out.2.1.mono (by simp)) HN9.out.2.2.1 HN9.out.2.2.2.1 HN9.out.2.2.2.2.1 HN9.out.2.2.2.2.2)
          clear L9 W9 F9 hs' b2
          have hsz4 : ((((((((y2.alloc (.cells #[.int .i64 s'.term, .int .i64 s'.vote, .int .i64 s'.base, .int .i64 s'.bterm, (.slice o9 s'.log.length c9), .int .i64 0] 52)).setCell ⟨w.heap.size, 0, none⟩ (.int .i64 s'.term)).setCell ⟨w.heap.size, 1, none⟩ (.int .i64 s'.vote)).setCell ⟨w.heap.size, 2, none⟩ (.int .i64 s'.base)).setCell ⟨w.heap.size, 3, none⟩ (.int .i64 s'.bterm)).setCell ⟨w.heap.size, 4, none⟩ (.slice o9 s'.log.length c9)).setCell ⟨w.heap.size, 5, none⟩ (.int .i64 0)) : World).heap.size = y2.heap.size + 1 := by simp
          have O4 : Hid (Own (((((((y2.alloc (.cells #[.int .i64 s'.term, .int .i64 s'.vote, .int .i64 s'.base, .int .i64 s'.bterm, (.slice o9 s'.log.length c9), .int .i64 0] 52)).setCell ⟨w.heap.size, 0, none⟩ (.int .i64 s'.term)).setCell ⟨w.heap.size, 1, none⟩ (.int .i64 s'.vote)).setCell ⟨w.heap.size, 2, none⟩ (.int .i64 s'.base)).setCell ⟨w.heap.size, 3, none⟩ (.int .i64 s'.bterm)).setCell ⟨w.heap.size, 4, none⟩ (.slice o9 s'.log.length c9)).setCell ⟨w.heap.size, 5, none⟩ (.int .i64 0)) (w.heap.size + 1) (.slice o3 n3 c3v) (frameN P3)) := fits.own_keptR (O3.out _) (six_sets (D3.out _).st _ _ _ _ _ _).2 (fun j hj e => by simp only [Option.some.injEq] at e; have := ((O3.out (.cells #[] 5)).lt j hj).1; omega)
          go_wp2_with (at_builtin; (generalize ((((((((y2.alloc (.cells #[.int .i64 s'.term, .int .i64 s'.vote, .int .i64 s'.base, .int .i64 s'.bterm, (.slice o9 s'.log.length c9), .int .i64 0] 52)).setCell ⟨w.heap.size, 0, none⟩ (.int .i64 s'.term)).setCell ⟨w.heap.size, 1, none⟩ (.int .i64 s'.vote)).setCell ⟨w.heap.size, 2, none⟩ (.int .i64 s'.base)).setCell ⟨w.heap.size, 3, none⟩ (.int .i64 s'.bterm)).setCell ⟨w.heap.size, 4, none⟩ (.slice o9 s'.log.length c9)).setCell ⟨w.heap.size, 5, none⟩ (.int .i64 0)) : World) = y3 at HNx4 O4 hsz4 ⊢; refine wpList_append_lies22 _ rfl _ _ rfl (w.heap.size + 1) u4 vs.length vs rfl (World.ownsRow.alloc HNx4.out.row _) ⟨y2.heap.size + 1, 0, none⟩ 1 1 [.slice o3 n3 c3v] rfl rfl (by rw [← hsz4]; exact cell_one_new _ _ _) (by intro u hu; simp at hu; subst hu; rfl) (by decide) (by omega) (by have := HNx4.out.lt; simp at this ⊢; omega) ?_; intro g cap9 w9 hown hgrow hat hlt9))
          have HF := hide (HNx4.out.push hPl O4.out hown hgrow (by rcases hat with e | e; exact .inl e.symm; exact .inr (fun g' hg' => by simp [Value.ownBlock] at hg'; simp at e; omega)))
          clear hown hgrow hat
          go_wp2
          go_roundw
          case rel => exact ⟨k', s', o9, c9, us9, vs ++ [.slice o3 n3 c3v], ps ++ [P3], aR, sdR, by go_num, by rw [List.length_append]; show k' + (vs.length + 1) ≤ 13; omega, by omega, HF⟩
          case measure => simp [intOf]
    · have hk1 : k = 0 := by omega
      subst hk1
      have HF := hide HR.out
      obtain ⟨vo, vc, evo⟩ : ∃ vo vc, u4 = .slice vo vs.length vc := by
        rcases HR.out.row.2 with ⟨e1, e2⟩ | ⟨g, cap', cur, e1, _⟩
        · exact ⟨none, 0, by rw [e1, e2]⟩
        · exact ⟨_, _, e1⟩
      subst evo
      go_wp2
      go_ret
      exact ⟨vo, _, vc, vs, ps, rfl, HF.out.row, HF.out.each, HF.out.len, by have := HF.out.len; omega, HF.out.ok, HF.out.gr⟩
end Go.Proofs.Ytipcdioolafkpaa.recsdraw

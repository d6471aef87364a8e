import Derived.Test.YtklkglbimjajnaaQ17
import Derived.WalkMore
import Derived.Deep.RegionLaw
import Derived.Deep.AppendLies
import Derived.Test.YtklkglbimjajnaaQ16
import Derived.Test.YtklkglbimjajnaaQ04
import Derived.Laws.AppendOwnNone
import Derived.Test.YtklkglbimjajnaaQ10
import Derived.Deep.Cut
import Derived.Deep.CutRange
import Derived.Deep.DeepCutAuto
import Derived.Deep.QuietTactic
import Derived.BigQuiet
import Derived.Deep.RegionHeldLaw
set_option linter.unusedVariables false
open Go.ChangeShapes Go.WideShapes Go.ChangeAt Go.RowKit
namespace Go.Proofs.Ytklkglbimjajnaa.scom
open Raft mem srun ssend sdown ssmall scopy srecs sapp ssame schos schosen
variable {F : Nat → Option Obj}
def SD (F : Nat → Option Obj) (w : World) (M : Fz) (base d P pc : Nat) (c' : Cl) (w' : World) : Prop :=
  ∃ M' us ns nv cs cv, Le M M' ∧ Below base w w' ∧ Run (TS F) w' M' base d P pc c' us ns nv cs cv ∧ ∀ b, M' b ≠ none → M b ≠ none ∨ base ≤ b
theorem Run.base_le {T : Ty} {w : World} {M : Fz} {base d P pc : Nat} {c : Cl} {us : List PV} {ns : List MV} {nv : Value} {cs : List RV} {cv : Value} (h : Run T w M base d P pc c us ns nv cs cv) : base ≤ w.heap.size := by
  have := h.low.1; have := h.lt.1; omega
theorem noted_sd {w w' : World} {M : Fz} {base d P pc : Nat} {c : Cl} {us : List PV} {ns : List MV} {nv : Value} {cs : List RV} {cv : Value} (h : Run (TS F) w M base d P pc c us ns nv cs cv) {k : Nat} {x : PV} (hk : us[k]? = some x) (hcm : x.p.commit ≤ x.p.log.length) (hn : Noted F w M base d P pc c us ns nv cv (x.p.log.take x.p.commit) x.p.commit w') : SD F w M base d P pc (c.note k) w' := by
  obtain ⟨W, M', cs', cv', hb, hr⟩ := hn
  have hat := (sdown.Run.at h hk).1
  have hbs := scom.Run.base_le h
  refine ⟨M', us, ns, nv, cs', cv', hr.le, ?_, ?_, fun b hb' => (hr.dom b hb').imp id (fun h => by omega)⟩
  · refine (hb.mono hbs).trans ⟨hr.chg.os, hr.chg.tape, hr.chg.output, hr.chg.size, fun b hb' => hr.chg.block b (by have := hb.size; omega) ?_⟩
    rintro (e | e | e)
    · have := h.low.1; omega
    · have := (srun.row_lt h.chos e).1; omega
    · omega
  · have e := note_eq c k
    rw [hat] at e
    rw [e, List.length_take, Nat.min_eq_left hcm]
    exact hr.run
theorem recsM_slice {M : Fz} {v : Value} {l : List Rc} (h : RecsM M v l) : ∃ o c, v = .slice o l.length c := by
  obtain ⟨us, e, ⟨ao, cap, e2, _⟩, _⟩ := h
  exact ⟨ao, cap, by rw [e2, ← e, List.length_map]⟩
theorem row_cap {w : World} {base e sz : Nat} {o : Option Addr} {n c m : Nat} {xs : List Value} (h : w.ownsRow base e sz (.slice o n c) m xs) : m ≤ c ∧ c ≤ maxLen := by
  obtain ⟨h1, ⟨e1, e2⟩ | ⟨g, cap, cur, e1, hb, hg, hnc, hcm, hcs, ht⟩⟩ := h
  · simp only [Value.slice.injEq] at e1
    unfold maxLen
    omega
  · simp only [Value.slice.injEq] at e1
    obtain ⟨_, _, rfl⟩ := e1
    exact ⟨hnc, hcm⟩
theorem reach_le_commit (p : Peer) (n : Nat) : ∀ y, y ≤ p.commit → reach p n y = p.commit
  | 0, _ => rfl
  | y + 1, h => by unfold reach; rw [if_pos h]
theorem put_same (c : Cl) (k : Nat) (h : k < c.peers.length) : c.put k (c.at k) = c := by
  unfold Cl.put Cl.at
  have e : c.peers.set k (c.peers.getD k Peer.zero) = c.peers := by
    rw [List.getD_eq_getElem?_getD, List.getElem?_eq_getElem h]
    simp
  rw [e]
theorem countP_take {l : List Nat} {y : Nat} {j m : Nat} (h : l[j]? = some m) : (l.take (j + 1)).countP (fun m => decide (y ≤ m)) = (l.take j).countP (fun m => decide (y ≤ m)) + (if y ≤ m then 1 else 0) := by
  rw [List.take_add_one, h, List.countP_append]
  simp [List.countP_cons]
set_option maxRecDepth 20000 in
set_option maxHeartbeats 2000000 in
theorem commit_any (w : World) (M : Fz) (base d P pc : Nat) (c : Cl) (us : List PV) (ns : List MV) (nv : Value) (cs : List RV) (cv : Value) (h : Run (TS F) w M base d P pc c us ns nv cs cv) (k : Nat) (x : PV) (hk : us[k]? = some x)
    (hU1 : 1 ≤ us.length) (hU7 : us.length ≤ 7) (hcm : x.p.commit ≤ x.p.log.length) (hlen : x.p.log.length ≤ 1000) (hcl : c.chosen.length ≤ 1000) (hml : x.p.mat.length ≤ 1000) :
    Calls Try.prog 53 #[.pointer (some ⟨d, 0, none⟩), .int .i64 k] w fun r w' => r = .returned (.tuple #[]) ∧ SD F w M base d P pc (c.commits k) w' := by
  have hxm : x ∈ us := List.mem_iff_getElem?.2 ⟨k, hk⟩
  have hlt : k < us.length := (List.getElem?_eq_some_iff.1 hk).1
  obtain ⟨hat, hat2⟩ := sdown.Run.at h hk
  have hul : us.length = c.peers.length := by rw [← h.peers, List.length_map]
  have hcap := h.cap
  have hbs := scom.Run.base_le h
  obtain ⟨lo, lc, elv⟩ := recsM_slice (h.logs x hxm)
  have hlog := h.logs x hxm
  rw [elv] at hlog
  obtain ⟨mo, mn, mc, emv⟩ := sapp.own_slice (h.mat x hxm)
  have hmat := h.mat x hxm
  rw [emv] at hmat
  obtain rfl : mn = x.p.mat.length := own_len hmat
  have hlcap := recs_len hlog
  have hmcap := row_cap hmat
  unfold maxLen at hcap hlcap hmcap
  have c0 : w.cell? ⟨d, 0, none⟩ = some (.slice (some ⟨P, 0, none⟩) us.length pc) := ssend.cell_of h.blk rfl
  have p1 := (h.peerCell hk (j := 1) (v := .int .i64 x.p.term) rfl).1
  have p3 := (h.peerCell hk (j := 3) (v := .int .i64 x.p.commit) rfl)
  have p5 := (h.peerCell hk (j := 5) (v := .slice lo x.p.log.length lc) (by rw [← elv]; rfl)).1
  have p8 := (h.peerCell hk (j := 8) (v := .slice mo x.p.mat.length mc) (by rw [← emv]; rfl)).1
  obtain ⟨p3, f3⟩ := p3
  have HMat : Hid (∀ j, j < x.p.mat.length → ∃ (mb : Nat) (m : Nat), mo = some ⟨mb, 0, none⟩ ∧ x.p.mat[j]? = some m ∧ w.cell? ⟨mb, j, none⟩ = some (.int .i64 (m : Int))) := fun j hj => by
    obtain ⟨m, hm⟩ : ∃ m, x.p.mat[j]? = some m := ⟨_, List.getElem?_eq_getElem hj⟩
    obtain ⟨h1, ⟨e1, e2⟩ | ⟨g, cap, cur, e1, hb, hg, hnc, hcm, hcs, ht⟩⟩ := id hmat
    · omega
    · simp only [Value.slice.injEq, true_and] at e1
      obtain ⟨rfl, rfl⟩ := e1
      have := World.ownsRow.cells hmat rfl j (.int .i64 (m : Int)) (by rw [List.getElem?_map, hm]; rfl)
      rw [ssend.addr_add, Nat.zero_add] at this
      exact ⟨g, m, rfl, hm, this⟩
  have HLog : Hid (∀ z, z < x.p.log.length → ∃ (lb off t : Nat), lo = some ⟨lb, off, none⟩ ∧ termAt x.p.log (z + 1) = t ∧ w.cell? ⟨lb, off + z * 3, none⟩ = some (.int .i64 (t : Int))) := fun z hz => by
    obtain ⟨r, hr⟩ : ∃ r, x.p.log[z]? = some r := ⟨_, List.getElem?_eq_getElem hz⟩
    obtain ⟨lb, off, dv, rfl, q0, _⟩ := recs_cell hlog h.inn hr
    refine ⟨lb, off, r.term, rfl, ?_, q0⟩
    unfold termAt
    rw [if_neg (by omega), Nat.add_sub_cancel, hr]
  have HMost : Hid (∀ wx, Calls Try.prog 105 #[.int .i64 ((us.length : Nat) : Int)] wx fun r w' => r = .returned (.int .i64 ((most us.length : Nat) : Int)) ∧ w' = wx) := fun wx => most_any wx us.length hU1 hU7
  have HOut : Hid (∀ q, reach x.p us.length x.p.log.length = x.p.commit → Calls Try.prog 106 #[.pointer (some ⟨d, 0, none⟩), .int .i64 k] (w.drewN q) fun r w' => r = .returned (.tuple #[]) ∧ SD F w M base d P pc (c.commits k) w') := fun q hr => by
    have hb : Below w.heap.size w (w.drewN q) := ⟨rfl, rfl, rfl, Nat.le_refl _, fun _ _ => rfl⟩
    refine (chosen_any (w.drewN q) M base d P pc c us ns nv cs cv (h.below hb) k x hk hcm hlen hcl).mono ?_
    rintro r w' ⟨rfl, hn⟩
    refine ⟨rfl, ?_⟩
    obtain ⟨M', us', ns', nv', cs', cv', a1, a2, a3, a4⟩ := noted_sd (h.below hb) hk hcm hn
    have e : c.commits k = c.note k := by
      have e1 : (c.put k { c.at k with commit := reach (c.at k) c.peers.length (c.at k).log.length }) = c := by
        rw [hat, ← hul, hr, ← hat]
        exact put_same c k (by omega)
      show (c.put k { c.at k with commit := reach (c.at k) c.peers.length (c.at k).log.length }).note k = c.note k
      rw [e1]
    rw [e]
    exact ⟨M', us', ns', nv', cs', cv', a1, (hb.mono hbs).trans a2, a3, a4⟩
  have HBrk : Hid (∀ q y, y ≤ x.p.log.length → reach x.p us.length x.p.log.length = y → Calls Try.prog 106 #[.pointer (some ⟨d, 0, none⟩), .int .i64 k] ((w.drewN q).setCell ⟨P, k * 9 + 3, none⟩ (.int .i64 ((y : Nat) : Int))) fun r w' => r = .returned (.tuple #[]) ∧ SD F w M base d P pc (c.commits k) w') := fun q y hy hr => by
    have hb : Below w.heap.size w (w.drewN q) := ⟨rfl, rfl, rfl, Nat.le_refl _, fun _ _ => rfl⟩
    have h2 := sdown.Run.setScalar (h.below hb) (v := .int .i64 (y : Int)) (j := 3) { x.p with commit := y } hk (by omega) rfl rfl rfl rfl rfl
    have hk2 : (us.set k { x with p := { x.p with commit := y } })[k]? = some { x with p := { x.p with commit := y } } := got_set hk
    refine (chosen_any _ M base d P pc _ _ ns nv cs cv h2 k _ hk2 hy hlen hcl).mono ?_
    rintro r w' ⟨rfl, hn⟩
    refine ⟨rfl, ?_⟩
    obtain ⟨M', us', ns', nv', cs', cv', a1, a2, a3, a4⟩ := noted_sd h2 hk2 hy hn
    have e : c.commits k = ({ c with peers := c.peers.set k { x.p with commit := y } } : Cl).note k := by
      show (c.put k { c.at k with commit := reach (c.at k) c.peers.length (c.at k).log.length }).note k = _
      rw [hat, ← hul, hr]
      rfl
    rw [e]
    exact ⟨M', us', ns', nv', cs', cv', a1, ((hb.mono hbs).setCell h.low.2 _).trans a2, a3, a4⟩
  obtain ⟨L, eL⟩ : ∃ L, x.p.log.length = L := ⟨_, rfl⟩
  obtain ⟨ML, eML⟩ : ∃ L, x.p.mat.length = L := ⟨_, rfl⟩
  obtain ⟨CM, eCM⟩ : ∃ L, x.p.commit = L := ⟨_, rfl⟩
  obtain ⟨U, eU⟩ : ∃ U, us.length = U := ⟨_, rfl⟩
  obtain ⟨TM, eTM⟩ : ∃ T, x.p.term = T := ⟨_, rfl⟩
  have HRz : Hid (∀ y, y ≤ CM → reach x.p U y = CM) := fun y hy => by rw [← eCM]; exact reach_le_commit _ _ _ (by omega)
  have HRs : Hid (∀ z cnt t, CM < z + 1 → cnt = x.p.mat.countP (fun m => decide (z + 1 ≤ m)) → termAt x.p.log (z + 1) = t → reach x.p U (z + 1) = if most U ≤ cnt ∧ t = TM then z + 1 else reach x.p U z) := fun z cnt t h1 h2 h3 => by
    rw [h2, ← h3, ← eTM]
    conv => lhs; unfold reach
    rw [if_neg (by omega)]
  have HAll : Hid ((x.p.mat.take ML) = x.p.mat) := by rw [← eML]; exact List.take_length
  rw [eL] at p5 hlen hcm HLog HOut HBrk hlcap
  rw [eML] at p8 hml HMat hmcap
  rw [eCM] at p3 hcm HOut
  rw [eTM] at p1
  rw [eU] at c0 hU1 hU7 hlt hcap HMost HOut HBrk
  have hkU : (k : Int) < U := by omega
  have hmost : most U ≤ 7 := by unfold most; omega
  obtain ⟨MU, eMU⟩ : ∃ MU, most U = MU := ⟨_, rfl⟩
  rw [eMU] at HMost HRs hmost
  clear h hxm hat hat2 hul hlog hmat elv emv eL eML eCM eU eTM eMU hk hcl hbs
  go_enter Try.func53, Try.ntmps53
  go_wp2
  go_loopw [5, 6, 7] (fun i a b wr => ∃ (y m : Nat), y ≤ L ∧ i = .int .i64 y ∧ wr = w.drewN m ∧ Hid (reach x.p U y = reach x.p U L)) (fun i _ _ _ => (intOf i).toNat)
  case atStart => exact ⟨L, 0, Nat.le_refl _, rfl, rfl, rfl⟩
  case round =>
    obtain ⟨y, m, hy, rfl, rfl, HR⟩ := hrel
    by_cases hlt1 : CM < y
    · obtain ⟨z, rfl⟩ : ∃ z, y = z + 1 := ⟨y - 1, by omega⟩
      have hltI : (CM : Int) < (z : Int) + 1 := by omega
      go_wp2
      go_loopw [6, 7] (fun a b wr => ∃ (j cnt : Nat), j ≤ ML ∧ cnt ≤ j ∧ a = .int .i64 cnt ∧ b = .int .i64 j ∧ wr = w.drewN m ∧ Hid (cnt = (x.p.mat.take j).countP (fun m => decide (z + 1 ≤ m)))) (fun _ b _ => ML - (intOf b).toNat)
      case atStart => exact ⟨0, 0, Nat.zero_le _, Nat.le_refl _, rfl, rfl, rfl, rfl⟩
      case round =>
        obtain ⟨j, cnt, hj, hcj, rfl, rfl, rfl, HC⟩ := hrel
        by_cases hlt2 : j < ML
        · have hlt2I : (j : Int) < ML := by omega
          obtain ⟨mb, mj, rfl, hmj, cmj⟩ := HMat.out j hlt2
          have hct := countP_take (y := z + 1) hmj
          by_cases hge : z + 1 ≤ mj
          · have hgeI : (z : Int) + 1 ≤ mj := by omega
            rw [if_pos hge] at hct
            have HC2 : Hid (cnt + 1 = (x.p.mat.take (j + 1)).countP (fun m => decide (z + 1 ≤ m))) := by unfold Hid; have := HC.out; omega
            clear hct hmj
            go_wp2
            go_roundw
            case rel => exact ⟨j + 1, cnt + 1, by omega, by omega, by go_num, by go_num, by first | trivial | rfl, HC2⟩
            case measure => simp [intOf]; omega
          · have hgeI : ¬ ((z : Int) + 1 ≤ mj) := by omega
            rw [if_neg hge] at hct
            have HC2 : Hid (cnt = (x.p.mat.take (j + 1)).countP (fun m => decide (z + 1 ≤ m))) := by unfold Hid; have := HC.out; omega
            clear hct hmj
            go_wp2
            go_roundw
            case rel => exact ⟨j + 1, cnt, by omega, by omega, rfl, by go_num, by first | trivial | rfl, HC2⟩
            case measure => simp [intOf]; omega
        · have hlt2I : ¬ (j : Int) < ML := by omega
          obtain rfl : j = ML := by omega
          have hcnt := HC.out
          rw [HAll.out] at hcnt
          obtain ⟨lb, off, t, rfl, ht, clt⟩ := HLog.out z (by omega)
          have hrs := HRs.out z cnt t (by omega) hcnt ht
          have hz9 : (z : Int) < L := by omega
          have hcases : (¬ ((MU : Int) ≤ cnt) ∧ ¬ MU ≤ cnt) ∨ (((MU : Int) ≤ cnt ∧ MU ≤ cnt) ∧ ((t : Int) == (TM : Int)) = false ∧ t ≠ TM) ∨ (((MU : Int) ≤ cnt ∧ MU ≤ cnt) ∧ ((t : Int) == (TM : Int)) = true ∧ t = TM) := by
            by_cases e1 : MU ≤ cnt
            · by_cases e2 : t = TM
              · exact .inr (.inr ⟨⟨by omega, e1⟩, by simp; omega, e2⟩)
              · exact .inr (.inl ⟨⟨by omega, e1⟩, by simp; omega, e2⟩)
            · exact .inl ⟨by omega, e1⟩
          rcases hcases with ⟨b1, b2⟩ | ⟨⟨b1, b2⟩, b3, b4⟩ | ⟨⟨b1, b2⟩, b3, b4⟩
          · rw [if_neg (fun h => b2 h.1)] at hrs
            have HR2 : Hid (reach x.p U z = reach x.p U L) := by unfold Hid; rw [← hrs]; exact HR.out
            clear hrs hcnt ht HC HR HRs HRz HMat HLog HOut HBrk
            go_wp2
            go_quiet (first | (go_at_call 105; refine (HMost.out _).mono ?_; rintro e9 w9 ⟨rfl, rfl⟩; exact ⟨rfl, _, rfl⟩))
            go_wp2
            go_roundw
            case rel => exact ⟨z, _, by omega, by go_num, rfl, HR2⟩
            case measure => simp [intOf]
          · rw [if_neg (fun h => b4 h.2)] at hrs
            have HR2 : Hid (reach x.p U z = reach x.p U L) := by unfold Hid; rw [← hrs]; exact HR.out
            clear hrs hcnt ht HC HR HRs HRz HMat HLog HOut HBrk
            go_wp2
            go_quiet (first | (go_at_call 105; refine (HMost.out _).mono ?_; rintro e9 w9 ⟨rfl, rfl⟩; exact ⟨rfl, _, rfl⟩))
            go_wp2
            go_roundw
            case rel => exact ⟨z, _, by omega, by go_num, rfl, HR2⟩
            case measure => simp [intOf]
          · rw [if_pos ⟨b2, b4⟩] at hrs
            have HB2 := hide (fun q => HBrk.out q (z + 1) (by omega) (by rw [← HR.out]; exact hrs))
            clear hrs hcnt ht HC HR HRs HRz HMat HLog HOut HBrk
            go_wp2
            go_quiet (first | (go_at_call 105; refine (HMost.out _).mono ?_; rintro e9 w9 ⟨rfl, rfl⟩; exact ⟨rfl, _, rfl⟩))
            go_wp2_with (go_at_call 106; refine (HB2.out _).mono ?_; rintro rr w1 ⟨rfl, hsd⟩)
            go_end0
            exact ⟨rfl, hsd⟩
    · have hltI : ¬ (CM : Int) < y := by omega
      have hr := HRz.out y (by omega)
      have HO := hide (HOut.out m (by rw [← HR.out]; exact hr))
      clear HRs HRz HMat HLog HOut HBrk HR hr
      go_wp2_with (go_at_call 106; refine HO.out.mono ?_; rintro rr w1 ⟨rfl, hsd⟩)
      go_end0
      exact ⟨rfl, hsd⟩
end Go.Proofs.Ytklkglbimjajnaa.scom
namespace Go.Proofs.Ytklkglbimjajnaa.sgrow
open Raft mem srun ssend sdown ssmall scopy srecs sapp ssame schos schosen scom
variable {F : Nat → Option Obj}
section
variable {T : Ty} {w : World} {M : Fz} {base d P pc : Nat} {c : Cl} {us : List PV} {ns : List MV} {nv : Value} {cs : List RV} {cv : Value}
theorem Run.swap (h : Run T w M base d P pc c us ns nv cs cv) {k i j : Nat} {x x' : PV} {u v : Value} (hk : us[k]? = some x) (hu : (rows x)[i]? = some u) {w2 : World} (hG : w.grownBy w2 u.ownBlock) (hj : j < 9) (hc : peerCells x' = (peerCells x).set j v)
    (hlog : RecsM M x'.lv x'.p.log) (hv : w2.ownsRow base 4 1 x'.vv x'.p.votes.length (x'.p.votes.map Value.bool)) (hn : w2.ownsRow base 3 1 x'.nv x'.p.next.length (x'.p.next.map fun (n : Nat) => Value.int .i64 (n : Int)))
    (hm : w2.ownsRow base 3 1 x'.mv x'.p.mat.length (x'.p.mat.map fun (n : Nat) => Value.int .i64 (n : Int)))
    (hrow : ∀ (i : Nat) (u : Value) (b : Nat), (rows x')[i]? = some u → u.ownBlock = some b → (∃ u0, (rows x)[i]? = some u0 ∧ u0.ownBlock = some b) ∨ (¬ Mine d P us cv b ∧ (M b = none ∧ T.far b = none) ∧ ∀ (i' : Nat) (u' : Value), (rows x')[i']? = some u' → u'.ownBlock = some b → i = i')) :
    Run T (w2.setCell ⟨P, k * 9 + j, none⟩ v) M base d P pc { c with peers := c.peers.set k x'.p } (us.set k x') ns nv cs cv := by
  have hlt : k < us.length := (List.getElem?_eq_some_iff.1 hk).1
  have hurow : ∀ g, u.ownBlock = some g → IsRow us g := fun g hg => ⟨k, x, i, u, hk, hu, hg⟩
  have hw2 : ∀ b, b < w.heap.size → ¬ u.ownBlock = some b → w2.heap[b]? = w.heap[b]? := fun b hb hn' => hG.block b hb (fun e => hn' e.symm)
  have hd2 := hw2 d h.lt.1 (fun e => h.apart.2.1 (hurow d e))
  have hP2 := hw2 P h.lt.2 (fun e => h.apart.2.2.1 (hurow P e))
  have hI2 : In M w2 := h.inn.grown hG (fun g hg => h.free g (.inr (.inr (.inl (hurow g hg)))))
  have hne : ∀ b, b ≠ P → (w2.setCell ⟨P, k * 9 + j, none⟩ v).heap[b]? = w2.heap[b]? := fun b hb => Below.heap_setCell w2 ⟨P, k * 9 + j, none⟩ v b hb
  have hat : ∀ k1 y, (us.set k x')[k1]? = some y → (k1 = k ∧ y = x') ∨ (k1 ≠ k ∧ us[k1]? = some y) := fun k1 y hy => by
    by_cases e : k1 = k
    · subst e
      rw [List.getElem?_set_self hlt] at hy
      exact .inl ⟨rfl, (Option.some.inj hy).symm⟩
    · rw [List.getElem?_set_ne (Ne.symm e)] at hy
      exact .inr ⟨e, hy⟩
  have hrows : ∀ b, IsRow (us.set k x') b → IsRow us b ∨ (¬ Mine d P us cv b ∧ (M b = none ∧ T.far b = none)) := fun b ⟨k1, y, i1, u1, h1, h2, h3⟩ => by
    rcases hat k1 y h1 with ⟨rfl, rfl⟩ | ⟨_, h1⟩
    · rcases hrow i1 u1 b h2 h3 with ⟨u0, h4, h4b⟩ | ⟨h4, h5, _⟩
      · exact .inl ⟨k1, x, i1, u0, hk, h4, h4b⟩
      · exact .inr ⟨h4, h5⟩
    · exact .inl ⟨k1, y, i1, u1, h1, h2, h3⟩
  have hmine : ∀ b, Mine d P (us.set k x') cv b → M b = none := fun b hb => by
    rcases hb with hb | hb | hb | hb
    · exact h.free b (.inl hb)
    · exact h.free b (.inr (.inl hb))
    · rcases hrows b hb with h1 | h1
      · exact h.free b (.inr (.inr (.inl h1)))
      · exact h1.2.1
    · exact h.free b (.inr (.inr (.inr hb)))
  have hPr : ∀ b, IsRow (us.set k x') b → b ≠ P := fun b hb e => by
    rcases hrows b hb with h1 | h1
    · exact h.apart.2.2.1 (e ▸ h1)
    · exact h1.1 (.inr (.inl e))
  have hidx : ∀ y, y ∈ us.set k x' → ∃ k1, (us.set k x')[k1]? = some y ∧ ((k1 = k ∧ y = x') ∨ (k1 ≠ k ∧ us[k1]? = some y)) := fun y hy => by
    obtain ⟨k1, h1⟩ := List.mem_iff_getElem?.1 hy
    exact ⟨k1, h1, hat k1 y h1⟩
  have hoth : ∀ y k1, k1 ≠ k → us[k1]? = some y → ∀ j1 u1, (rows y)[j1]? = some u1 → ∀ g : Nat, Value.ownBlock u1 = some g → w2.heap[g]? = w.heap[g]? := fun y k1 hne1 hk1 j1 u1 hj1 g hg => by
    refine hw2 g (h.blocks_lt ⟨k1, y, j1, u1, hk1, hj1, hg⟩).2 (fun e => ?_)
    exact hne1 (h.lone k1 k y x j1 i u1 u g hk1 hk hj1 hu hg e).1
  exact {
    inn := hI2.set (h.free P (.inr (.inl rfl))) v
    blk := by rw [hne d h.apart.1, List.length_set]; exact hd2.trans h.blk
    row := by
      obtain ⟨cur, q1, q2, q3⟩ := h.row
      refine ⟨cur.setIfInBounds (k * 9 + j) v, heap_setCell_same w2 P (k * 9 + j) cur T.peer v (hP2.trans q1), by simpa using q2, ?_⟩
      rw [List.length_set, srun.flat_set hk hj hc, ← q3, Array.toList_setIfInBounds, List.take_set]
    cap := by rw [List.length_set]; exact h.cap
    peers := by rw [List.map_set, h.peers]
    logs := fun y hy => by
      obtain ⟨k1, h1, ⟨rfl, rfl⟩ | ⟨h2, h3⟩⟩ := hidx y hy
      · exact hlog
      · exact h.logs y (List.mem_iff_getElem?.2 ⟨k1, h3⟩)
    votes := fun y hy => by
      refine srun.row_kept (w := w2) ?_ fun g hg => hne g (hPr g (mem_blocks hy (by simp [rows]) hg))
      obtain ⟨k1, h1, ⟨rfl, rfl⟩ | ⟨h2, h3⟩⟩ := hidx y hy
      · exact hv
      · exact srun.row_kept (h.votes y (List.mem_iff_getElem?.2 ⟨k1, h3⟩)) (hoth y k1 h2 h3 0 y.vv rfl)
    next := fun y hy => by
      refine srun.row_kept (w := w2) ?_ fun g hg => hne g (hPr g (mem_blocks hy (by simp [rows]) hg))
      obtain ⟨k1, h1, ⟨rfl, rfl⟩ | ⟨h2, h3⟩⟩ := hidx y hy
      · exact hn
      · exact srun.row_kept (h.next y (List.mem_iff_getElem?.2 ⟨k1, h3⟩)) (hoth y k1 h2 h3 1 y.nv rfl)
    mat := fun y hy => by
      refine srun.row_kept (w := w2) ?_ fun g hg => hne g (hPr g (mem_blocks hy (by simp [rows]) hg))
      obtain ⟨k1, h1, ⟨rfl, rfl⟩ | ⟨h2, h3⟩⟩ := hidx y hy
      · exact hm
      · exact srun.row_kept (h.mat y (List.mem_iff_getElem?.2 ⟨k1, h3⟩)) (hoth y k1 h2 h3 2 y.mv rfl)
    lone := fun k1 k2 y1 y2 i1 i2 u1 u2 b g1 g2 g3 g4 g5 g6 => by
      rcases hat k1 y1 g1 with ⟨rfl, rfl⟩ | ⟨n1, g1'⟩
      · rcases hat k2 y2 g2 with ⟨rfl, rfl⟩ | ⟨n2, g2'⟩
        · refine ⟨rfl, ?_⟩
          rcases hrow i1 u1 b g3 g5 with ⟨v1, e1, e1b⟩ | ⟨_, _, e1⟩
          · rcases hrow i2 u2 b g4 g6 with ⟨v2, e2, e2b⟩ | ⟨_, _, e2⟩
            · exact (h.lone k2 k2 x x i1 i2 v1 v2 b hk hk e1 e2 e1b e2b).2
            · exact (e2 i1 u1 g3 g5).symm
          · exact e1 i2 u2 g4 g6
        · rcases hrow i1 u1 b g3 g5 with ⟨v1, e1, e1b⟩ | ⟨e1, _⟩
          · exact h.lone k1 k2 x y2 i1 i2 v1 u2 b hk g2' e1 g4 e1b g6
          · exact absurd (.inr (.inr (.inl ⟨k2, y2, i2, u2, g2', g4, g6⟩))) e1
      · rcases hat k2 y2 g2 with ⟨rfl, rfl⟩ | ⟨n2, g2'⟩
        · rcases hrow i2 u2 b g4 g6 with ⟨v1, e1, e1b⟩ | ⟨e1, _⟩
          · exact h.lone k1 k2 y1 x i1 i2 u1 v1 b g1' hk g3 e1 g5 e1b
          · exact absurd (.inr (.inr (.inl ⟨k1, y1, i1, u1, g1', g3, g5⟩))) e1
        · exact h.lone k1 k2 y1 y2 i1 i2 u1 u2 b g1' g2' g3 g4 g5 g6
    free := hmine
    net := h.net
    nets := h.nets
    chos := srun.row_kept (w := w2) (srun.row_kept h.chos (fun g hg => hw2 g (srun.row_lt h.chos hg).2 (fun e => h.apart.2.2.2.2.2 g (hurow g e) hg))) (fun g hg => hne g (fun e => h.apart.2.2.2.2.1 (e ▸ hg)))
    chosen := h.chosen
    data := h.data
    low := h.low
    apart := ⟨h.apart.1, fun e => by
        rcases hrows d e with h1 | h1
        · exact h.apart.2.1 h1
        · exact h1.1 (.inl rfl), fun e => hPr P e rfl, h.apart.2.2.2.1, h.apart.2.2.2.2.1, fun b hb e => by
        rcases hrows b hb with h1 | h1
        · exact h.apart.2.2.2.2.2 b h1 e
        · exact h1.1 (.inr (.inr (.inr e)))⟩
    far := fun b o e => ⟨(hne b (fun q => (h.far b o e).2.2 (.inr (.inl q)))).trans ((hw2 b (h.farL e) (fun q => (h.far b o e).2.2 (.inr (.inr (.inl (hurow b q)))))).trans (h.far b o e).1), (h.far b o e).2.1, fun hm => by
      rcases hm with hm | hm | hm | hm
      · exact (h.far b o e).2.2 (.inl hm)
      · exact (h.far b o e).2.2 (.inr (.inl hm))
      · rcases hrows b hm with g | g
        · exact (h.far b o e).2.2 (.inr (.inr (.inl g)))
        · rw [g.2.2] at e; cases e
      · exact (h.far b o e).2.2 (.inr (.inr (.inr hm)))⟩ }
theorem Run.pushNext (h : Run T w M base d P pc c us ns nv cs cv) {k : Nat} {x : PV} (hk : us[k]? = some x) (a : Nat) {w2 : World} {g cap : Nat} (hO : w2.ownsRow base 3 1 (.slice (some ⟨g, 0, none⟩) (x.p.next.length + 1) cap) (x.p.next.length + 1) ((x.p.next.map fun (n : Nat) => Value.int .i64 (n : Int)) ++ [.int .i64 (a : Int)])) (hG : w.grownBy w2 x.nv.ownBlock) (hg : x.nv.ownBlock = some g ∨ g = w.heap.size) :
    Run T (w2.setCell ⟨P, k * 9 + 7, none⟩ (.slice (some ⟨g, 0, none⟩) (x.p.next.length + 1) cap)) M base d P pc { c with peers := c.peers.set k { x.p with next := x.p.next ++ [a] } } (us.set k { x with p := { x.p with next := x.p.next ++ [a] }, nv := .slice (some ⟨g, 0, none⟩) (x.p.next.length + 1) cap }) ns nv cs cv := by
  have hx : x ∈ us := List.mem_iff_getElem?.2 ⟨k, hk⟩
  have hfr : ∀ j u, j ≠ 1 → (rows x)[j]? = some u → ∀ b : Nat, Value.ownBlock u = some b → w2.heap[b]? = w.heap[b]? := fun j u hj hu b hb => hG.block b (h.blocks_lt ⟨k, x, j, u, hk, hu, hb⟩).2 (fun e => hj (h.lone k k x x j 1 u x.nv b hk hk hu rfl hb e.symm).2)
  refine Run.swap h (x' := { x with p := { x.p with next := x.p.next ++ [a] }, nv := .slice (some ⟨g, 0, none⟩) (x.p.next.length + 1) cap }) hk (i := 1) (u := x.nv) rfl hG (by decide) rfl (h.logs x hx) (srun.row_kept (h.votes x hx) (hfr 0 x.vv (by decide) rfl)) (by simpa using hO) (srun.row_kept (h.mat x hx) (hfr 2 x.mv (by decide) rfl)) (fun i u b e1 e2 => ?_)
  have fresh : g = w.heap.size → ¬ Mine d P us cv g ∧ (M g = none ∧ T.far g = none) := fun e => ⟨fun hm => by have := h.mine hm; omega, h.inn.fresh (by omega), h.farN (by omega)⟩
  match i, e1 with
  | 0, e1 => exact .inl ⟨u, e1, e2⟩
  | 1, e1 =>
    simp [rows] at e1
    subst e1
    obtain rfl : g = b := by simpa [Value.ownBlock] using e2
    rcases hg with hg | hg
    · exact .inl ⟨x.nv, rfl, hg⟩
    · refine .inr ⟨(fresh hg).1, (fresh hg).2, fun i' u' h1 h2 => ?_⟩
      match i', h1 with
      | 0, h1 => simp [rows] at h1; subst h1; exact absurd (.inr (.inr (.inl ⟨k, x, 0, x.vv, hk, rfl, h2⟩))) (fresh hg).1
      | 1, h1 => rfl
      | 2, h1 => simp [rows] at h1; subst h1; exact absurd (.inr (.inr (.inl ⟨k, x, 2, x.mv, hk, rfl, h2⟩))) (fresh hg).1
      | i' + 3, h1 => simp [rows] at h1
  | 2, e1 => exact .inl ⟨u, e1, e2⟩
  | i + 3, e1 => simp [rows] at e1
theorem Run.pushMat (h : Run T w M base d P pc c us ns nv cs cv) {k : Nat} {x : PV} (hk : us[k]? = some x) (a : Nat) {w2 : World} {g cap : Nat} (hO : w2.ownsRow base 3 1 (.slice (some ⟨g, 0, none⟩) (x.p.mat.length + 1) cap) (x.p.mat.length + 1) ((x.p.mat.map fun (n : Nat) => Value.int .i64 (n : Int)) ++ [.int .i64 (a : Int)])) (hG : w.grownBy w2 x.mv.ownBlock) (hg : x.mv.ownBlock = some g ∨ g = w.heap.size) :
    Run T (w2.setCell ⟨P, k * 9 + 8, none⟩ (.slice (some ⟨g, 0, none⟩) (x.p.mat.length + 1) cap)) M base d P pc { c with peers := c.peers.set k { x.p with mat := x.p.mat ++ [a] } } (us.set k { x with p := { x.p with mat := x.p.mat ++ [a] }, mv := .slice (some ⟨g, 0, none⟩) (x.p.mat.length + 1) cap }) ns nv cs cv := by
  have hx : x ∈ us := List.mem_iff_getElem?.2 ⟨k, hk⟩
  have hfr : ∀ j u, j ≠ 2 → (rows x)[j]? = some u → ∀ b : Nat, Value.ownBlock u = some b → w2.heap[b]? = w.heap[b]? := fun j u hj hu b hb => hG.block b (h.blocks_lt ⟨k, x, j, u, hk, hu, hb⟩).2 (fun e => hj (h.lone k k x x j 2 u x.mv b hk hk hu rfl hb e.symm).2)
  refine Run.swap h (x' := { x with p := { x.p with mat := x.p.mat ++ [a] }, mv := .slice (some ⟨g, 0, none⟩) (x.p.mat.length + 1) cap }) hk (i := 2) (u := x.mv) rfl hG (by decide) rfl (h.logs x hx) (srun.row_kept (h.votes x hx) (hfr 0 x.vv (by decide) rfl)) (srun.row_kept (h.next x hx) (hfr 1 x.nv (by decide) rfl)) (by simpa using hO) (fun i u b e1 e2 => ?_)
  have fresh : g = w.heap.size → ¬ Mine d P us cv g ∧ (M g = none ∧ T.far g = none) := fun e => ⟨fun hm => by have := h.mine hm; omega, h.inn.fresh (by omega), h.farN (by omega)⟩
  match i, e1 with
  | 0, e1 => exact .inl ⟨u, e1, e2⟩
  | 1, e1 => exact .inl ⟨u, e1, e2⟩
  | 2, e1 =>
    simp [rows] at e1
    subst e1
    obtain rfl : g = b := by simpa [Value.ownBlock] using e2
    rcases hg with hg | hg
    · exact .inl ⟨x.mv, rfl, hg⟩
    · refine .inr ⟨(fresh hg).1, (fresh hg).2, fun i' u' h1 h2 => ?_⟩
      match i', h1 with
      | 0, h1 => simp [rows] at h1; subst h1; exact absurd (.inr (.inr (.inl ⟨k, x, 0, x.vv, hk, rfl, h2⟩))) (fresh hg).1
      | 1, h1 => simp [rows] at h1; subst h1; exact absurd (.inr (.inr (.inl ⟨k, x, 1, x.nv, hk, rfl, h2⟩))) (fresh hg).1
      | 2, h1 => rfl
      | i' + 3, h1 => simp [rows] at h1
  | i + 3, e1 => simp [rows] at e1
end
end Go.Proofs.Ytklkglbimjajnaa.sgrow
namespace Go.Proofs.Ytklkglbimjajnaa.sin
open Raft mem srun ssend sdown ssmall scopy srecs sapp ssame schos schosen scom sgrow
variable {F : Nat → Option Obj}
section
variable {T : Ty} {w : World} {M : Fz} {base d P pc : Nat} {c : Cl} {us : List PV} {ns : List MV} {nv : Value} {cs : List RV} {cv : Value}
theorem Run.inRow (h : Run T w M base d P pc c us ns nv cs cv) {k i : Nat} {x x' : PV} {u : Value} (hk : us[k]? = some x) (hu : (rows x)[i]? = some u) {w2 : World} (hG : w.grownBy w2 u.ownBlock) (hc : peerCells x' = peerCells x)
    (hlog : RecsM M x'.lv x'.p.log) (hv : w2.ownsRow base 4 1 x'.vv x'.p.votes.length (x'.p.votes.map Value.bool)) (hn : w2.ownsRow base 3 1 x'.nv x'.p.next.length (x'.p.next.map fun (n : Nat) => Value.int .i64 (n : Int)))
    (hm : w2.ownsRow base 3 1 x'.mv x'.p.mat.length (x'.p.mat.map fun (n : Nat) => Value.int .i64 (n : Int)))
    (hrow : ∀ (i : Nat) (u : Value) (b : Nat), (rows x')[i]? = some u → u.ownBlock = some b → (∃ u0, (rows x)[i]? = some u0 ∧ u0.ownBlock = some b) ∨ (¬ Mine d P us cv b ∧ (M b = none ∧ T.far b = none) ∧ ∀ (i' : Nat) (u' : Value), (rows x')[i']? = some u' → u'.ownBlock = some b → i = i')) :
    Run T w2 M base d P pc { c with peers := c.peers.set k x'.p } (us.set k x') ns nv cs cv := by
  have hlt : k < us.length := (List.getElem?_eq_some_iff.1 hk).1
  have hurow : ∀ g, u.ownBlock = some g → IsRow us g := fun g hg => ⟨k, x, i, u, hk, hu, hg⟩
  have hw2 : ∀ b, b < w.heap.size → ¬ u.ownBlock = some b → w2.heap[b]? = w.heap[b]? := fun b hb hn' => hG.block b hb (fun e => hn' e.symm)
  have hd2 := hw2 d h.lt.1 (fun e => h.apart.2.1 (hurow d e))
  have hP2 := hw2 P h.lt.2 (fun e => h.apart.2.2.1 (hurow P e))
  have hI2 : In M w2 := h.inn.grown hG (fun g hg => h.free g (.inr (.inr (.inl (hurow g hg)))))
  have hne : ∀ b, b ≠ P → w2.heap[b]? = w2.heap[b]? := fun _ _ => rfl
  have hat : ∀ k1 y, (us.set k x')[k1]? = some y → (k1 = k ∧ y = x') ∨ (k1 ≠ k ∧ us[k1]? = some y) := fun k1 y hy => by
    by_cases e : k1 = k
    · subst e
      rw [List.getElem?_set_self hlt] at hy
      exact .inl ⟨rfl, (Option.some.inj hy).symm⟩
    · rw [List.getElem?_set_ne (Ne.symm e)] at hy
      exact .inr ⟨e, hy⟩
  have hrows : ∀ b, IsRow (us.set k x') b → IsRow us b ∨ (¬ Mine d P us cv b ∧ (M b = none ∧ T.far b = none)) := fun b ⟨k1, y, i1, u1, h1, h2, h3⟩ => by
    rcases hat k1 y h1 with ⟨rfl, rfl⟩ | ⟨_, h1⟩
    · rcases hrow i1 u1 b h2 h3 with ⟨u0, h4, h4b⟩ | ⟨h4, h5, _⟩
      · exact .inl ⟨k1, x, i1, u0, hk, h4, h4b⟩
      · exact .inr ⟨h4, h5⟩
    · exact .inl ⟨k1, y, i1, u1, h1, h2, h3⟩
  have hmine : ∀ b, Mine d P (us.set k x') cv b → M b = none := fun b hb => by
    rcases hb with hb | hb | hb | hb
    · exact h.free b (.inl hb)
    · exact h.free b (.inr (.inl hb))
    · rcases hrows b hb with h1 | h1
      · exact h.free b (.inr (.inr (.inl h1)))
      · exact h1.2.1
    · exact h.free b (.inr (.inr (.inr hb)))
  have hPr : ∀ b, IsRow (us.set k x') b → b ≠ P := fun b hb e => by
    rcases hrows b hb with h1 | h1
    · exact h.apart.2.2.1 (e ▸ h1)
    · exact h1.1 (.inr (.inl e))
  have hidx : ∀ y, y ∈ us.set k x' → ∃ k1, (us.set k x')[k1]? = some y ∧ ((k1 = k ∧ y = x') ∨ (k1 ≠ k ∧ us[k1]? = some y)) := fun y hy => by
    obtain ⟨k1, h1⟩ := List.mem_iff_getElem?.1 hy
    exact ⟨k1, h1, hat k1 y h1⟩
  have hoth : ∀ y k1, k1 ≠ k → us[k1]? = some y → ∀ j1 u1, (rows y)[j1]? = some u1 → ∀ g : Nat, Value.ownBlock u1 = some g → w2.heap[g]? = w.heap[g]? := fun y k1 hne1 hk1 j1 u1 hj1 g hg => by
    refine hw2 g (h.blocks_lt ⟨k1, y, j1, u1, hk1, hj1, hg⟩).2 (fun e => ?_)
    exact hne1 (h.lone k1 k y x j1 i u1 u g hk1 hk hj1 hu hg e).1
  exact {
    inn := hI2
    blk := by rw [hne d h.apart.1, List.length_set]; exact hd2.trans h.blk
    row := by
      obtain ⟨cur, q1, q2, q3⟩ := h.row
      refine ⟨cur, hP2.trans q1, q2, ?_⟩
      rw [List.length_set, q3, List.flatMap_def, List.flatMap_def, List.map_set, hc]
      congr 1
      have e : (us.map peerCells)[k]? = some (peerCells x) := by rw [List.getElem?_map, hk]; rfl
      obtain ⟨hl, e2⟩ := List.getElem?_eq_some_iff.1 e
      rw [← e2, List.set_getElem_self]
    cap := by rw [List.length_set]; exact h.cap
    peers := by rw [List.map_set, h.peers]
    logs := fun y hy => by
      obtain ⟨k1, h1, ⟨rfl, rfl⟩ | ⟨h2, h3⟩⟩ := hidx y hy
      · exact hlog
      · exact h.logs y (List.mem_iff_getElem?.2 ⟨k1, h3⟩)
    votes := fun y hy => by
      refine srun.row_kept (w := w2) ?_ fun g hg => hne g (hPr g (mem_blocks hy (by simp [rows]) hg))
      obtain ⟨k1, h1, ⟨rfl, rfl⟩ | ⟨h2, h3⟩⟩ := hidx y hy
      · exact hv
      · exact srun.row_kept (h.votes y (List.mem_iff_getElem?.2 ⟨k1, h3⟩)) (hoth y k1 h2 h3 0 y.vv rfl)
    next := fun y hy => by
      refine srun.row_kept (w := w2) ?_ fun g hg => hne g (hPr g (mem_blocks hy (by simp [rows]) hg))
      obtain ⟨k1, h1, ⟨rfl, rfl⟩ | ⟨h2, h3⟩⟩ := hidx y hy
      · exact hn
      · exact srun.row_kept (h.next y (List.mem_iff_getElem?.2 ⟨k1, h3⟩)) (hoth y k1 h2 h3 1 y.nv rfl)
    mat := fun y hy => by
      refine srun.row_kept (w := w2) ?_ fun g hg => hne g (hPr g (mem_blocks hy (by simp [rows]) hg))
      obtain ⟨k1, h1, ⟨rfl, rfl⟩ | ⟨h2, h3⟩⟩ := hidx y hy
      · exact hm
      · exact srun.row_kept (h.mat y (List.mem_iff_getElem?.2 ⟨k1, h3⟩)) (hoth y k1 h2 h3 2 y.mv rfl)
    lone := fun k1 k2 y1 y2 i1 i2 u1 u2 b g1 g2 g3 g4 g5 g6 => by
      rcases hat k1 y1 g1 with ⟨rfl, rfl⟩ | ⟨n1, g1'⟩
      · rcases hat k2 y2 g2 with ⟨rfl, rfl⟩ | ⟨n2, g2'⟩
        · refine ⟨rfl, ?_⟩
          rcases hrow i1 u1 b g3 g5 with ⟨v1, e1, e1b⟩ | ⟨_, _, e1⟩
          · rcases hrow i2 u2 b g4 g6 with ⟨v2, e2, e2b⟩ | ⟨_, _, e2⟩
            · exact (h.lone k2 k2 x x i1 i2 v1 v2 b hk hk e1 e2 e1b e2b).2
            · exact (e2 i1 u1 g3 g5).symm
          · exact e1 i2 u2 g4 g6
        · rcases hrow i1 u1 b g3 g5 with ⟨v1, e1, e1b⟩ | ⟨e1, _⟩
          · exact h.lone k1 k2 x y2 i1 i2 v1 u2 b hk g2' e1 g4 e1b g6
          · exact absurd (.inr (.inr (.inl ⟨k2, y2, i2, u2, g2', g4, g6⟩))) e1
      · rcases hat k2 y2 g2 with ⟨rfl, rfl⟩ | ⟨n2, g2'⟩
        · rcases hrow i2 u2 b g4 g6 with ⟨v1, e1, e1b⟩ | ⟨e1, _⟩
          · exact h.lone k1 k2 y1 x i1 i2 u1 v1 b g1' hk g3 e1 g5 e1b
          · exact absurd (.inr (.inr (.inl ⟨k1, y1, i1, u1, g1', g3, g5⟩))) e1
        · exact h.lone k1 k2 y1 y2 i1 i2 u1 u2 b g1' g2' g3 g4 g5 g6
    free := hmine
    net := h.net
    nets := h.nets
    chos := srun.row_kept (w := w2) (srun.row_kept h.chos (fun g hg => hw2 g (srun.row_lt h.chos hg).2 (fun e => h.apart.2.2.2.2.2 g (hurow g e) hg))) (fun g hg => hne g (fun e => h.apart.2.2.2.2.1 (e ▸ hg)))
    chosen := h.chosen
    data := h.data
    low := h.low
    apart := ⟨h.apart.1, fun e => by
        rcases hrows d e with h1 | h1
        · exact h.apart.2.1 h1
        · exact h1.1 (.inl rfl), fun e => hPr P e rfl, h.apart.2.2.2.1, h.apart.2.2.2.2.1, fun b hb e => by
        rcases hrows b hb with h1 | h1
        · exact h.apart.2.2.2.2.2 b h1 e
        · exact h1.1 (.inr (.inr (.inr e)))⟩
    far := fun b o e => ⟨(hne b (fun q => (h.far b o e).2.2 (.inr (.inl q)))).trans ((hw2 b (h.farL e) (fun q => (h.far b o e).2.2 (.inr (.inr (.inl (hurow b q)))))).trans (h.far b o e).1), (h.far b o e).2.1, fun hm => by
      rcases hm with hm | hm | hm | hm
      · exact (h.far b o e).2.2 (.inl hm)
      · exact (h.far b o e).2.2 (.inr (.inl hm))
      · rcases hrows b hm with g | g
        · exact (h.far b o e).2.2 (.inr (.inr (.inl g)))
        · rw [g.2.2] at e; cases e
      · exact (h.far b o e).2.2 (.inr (.inr (.inr hm)))⟩ }
theorem own_set1 {w : World} {base e n cap g : Nat} {xs : List Value} (h : w.ownsRow base e 1 (.slice (some ⟨g, 0, none⟩) n cap) n xs) (i : Nat) (x : Value) : (w.setCell ⟨g, i, none⟩ x).ownsRow base e 1 (.slice (some ⟨g, 0, none⟩) n cap) n (xs.set i x) := by
  obtain ⟨h1, ⟨e1, _⟩ | ⟨g', cap', cur, e1, hb, hg, hnc, hcm, hcs, ht⟩⟩ := h
  · simp at e1
  · simp only [Value.slice.injEq, Option.some.injEq, Addr.mk.injEq, and_true, true_and] at e1
    obtain ⟨rfl, rfl⟩ := e1
    refine ⟨by simp [h1], .inr ⟨g, cap, _, rfl, hb, heap_setCell_same w g i cur e x hg, hnc, hcm, by simp [hcs], ?_⟩⟩
    rw [Array.toList_setIfInBounds, List.take_set, ht]
theorem Run.setMat (h : Run T w M base d P pc c us ns nv cs cv) {k : Nat} {x : PV} (hk : us[k]? = some x) {g n cap : Nat} (hmv : x.mv = .slice (some ⟨g, 0, none⟩) n cap) (i a : Nat) :
    Run T (w.setCell ⟨g, i, none⟩ (.int .i64 (a : Int))) M base d P pc { c with peers := c.peers.set k { x.p with mat := x.p.mat.set i a } } (us.set k { x with p := { x.p with mat := x.p.mat.set i a } }) ns nv cs cv := by
  have hx : x ∈ us := List.mem_iff_getElem?.2 ⟨k, hk⟩
  have hb : x.mv.ownBlock = some g := by rw [hmv]; rfl
  have hG : w.grownBy (w.setCell ⟨g, i, none⟩ (.int .i64 (a : Int))) x.mv.ownBlock := by rw [hb]; exact ssend.set_grown _ _ _ _
  have hfr : ∀ j u, j ≠ 2 → (rows x)[j]? = some u → ∀ b : Nat, Value.ownBlock u = some b → (w.setCell ⟨g, i, none⟩ (.int .i64 (a : Int))).heap[b]? = w.heap[b]? := fun j u hj hu b hb' => hG.block b (h.blocks_lt ⟨k, x, j, u, hk, hu, hb'⟩).2 (fun e => hj (h.lone k k x x j 2 u x.mv b hk hk hu rfl hb' e.symm).2)
  have hm := h.mat x hx
  have hl : n = x.p.mat.length := by rw [hmv] at hm; exact own_len hm
  refine Run.inRow h (x' := { x with p := { x.p with mat := x.p.mat.set i a } }) hk (i := 2) (u := x.mv) rfl hG rfl (h.logs x hx) (srun.row_kept (h.votes x hx) (hfr 0 x.vv (by decide) rfl)) (srun.row_kept (h.next x hx) (hfr 1 x.nv (by decide) rfl)) ?_ (fun i u b e1 e2 => .inl ⟨u, e1, e2⟩)
  rw [hmv] at hm ⊢
  subst hl
  have := own_set1 hm i (.int .i64 (a : Int))
  simpa [List.map_set] using this
theorem Run.setNext (h : Run T w M base d P pc c us ns nv cs cv) {k : Nat} {x : PV} (hk : us[k]? = some x) {g n cap : Nat} (hmv : x.nv = .slice (some ⟨g, 0, none⟩) n cap) (i a : Nat) :
    Run T (w.setCell ⟨g, i, none⟩ (.int .i64 (a : Int))) M base d P pc { c with peers := c.peers.set k { x.p with next := x.p.next.set i a } } (us.set k { x with p := { x.p with next := x.p.next.set i a } }) ns nv cs cv := by
  have hx : x ∈ us := List.mem_iff_getElem?.2 ⟨k, hk⟩
  have hb : x.nv.ownBlock = some g := by rw [hmv]; rfl
  have hG : w.grownBy (w.setCell ⟨g, i, none⟩ (.int .i64 (a : Int))) x.nv.ownBlock := by rw [hb]; exact ssend.set_grown _ _ _ _
  have hfr : ∀ j u, j ≠ 1 → (rows x)[j]? = some u → ∀ b : Nat, Value.ownBlock u = some b → (w.setCell ⟨g, i, none⟩ (.int .i64 (a : Int))).heap[b]? = w.heap[b]? := fun j u hj hu b hb' => hG.block b (h.blocks_lt ⟨k, x, j, u, hk, hu, hb'⟩).2 (fun e => hj (h.lone k k x x j 1 u x.nv b hk hk hu rfl hb' e.symm).2)
  have hm := h.next x hx
  have hl : n = x.p.next.length := by rw [hmv] at hm; exact own_len hm
  refine Run.inRow h (x' := { x with p := { x.p with next := x.p.next.set i a } }) hk (i := 1) (u := x.nv) rfl hG rfl (h.logs x hx) (srun.row_kept (h.votes x hx) (hfr 0 x.vv (by decide) rfl)) ?_ (srun.row_kept (h.mat x hx) (hfr 2 x.mv (by decide) rfl)) (fun i u b e1 e2 => .inl ⟨u, e1, e2⟩)
  rw [hmv] at hm ⊢
  subst hl
  have := own_set1 hm i (.int .i64 (a : Int))
  simpa [List.map_set] using this
theorem Run.setVotes (h : Run T w M base d P pc c us ns nv cs cv) {k : Nat} {x : PV} (hk : us[k]? = some x) {g n cap : Nat} (hmv : x.vv = .slice (some ⟨g, 0, none⟩) n cap) (i : Nat) (a : Bool) :
    Run T (w.setCell ⟨g, i, none⟩ (.bool a)) M base d P pc { c with peers := c.peers.set k { x.p with votes := x.p.votes.set i a } } (us.set k { x with p := { x.p with votes := x.p.votes.set i a } }) ns nv cs cv := by
  have hx : x ∈ us := List.mem_iff_getElem?.2 ⟨k, hk⟩
  have hb : x.vv.ownBlock = some g := by rw [hmv]; rfl
  have hG : w.grownBy (w.setCell ⟨g, i, none⟩ (.bool a)) x.vv.ownBlock := by rw [hb]; exact ssend.set_grown _ _ _ _
  have hfr : ∀ j u, j ≠ 0 → (rows x)[j]? = some u → ∀ b : Nat, Value.ownBlock u = some b → (w.setCell ⟨g, i, none⟩ (.bool a)).heap[b]? = w.heap[b]? := fun j u hj hu b hb' => hG.block b (h.blocks_lt ⟨k, x, j, u, hk, hu, hb'⟩).2 (fun e => hj (h.lone k k x x j 0 u x.vv b hk hk hu rfl hb' e.symm).2)
  have hm := h.votes x hx
  have hl : n = x.p.votes.length := by rw [hmv] at hm; exact own_len hm
  refine Run.inRow h (x' := { x with p := { x.p with votes := x.p.votes.set i a } }) hk (i := 0) (u := x.vv) rfl hG rfl (h.logs x hx) ?_ (srun.row_kept (h.next x hx) (hfr 1 x.nv (by decide) rfl)) (srun.row_kept (h.mat x hx) (hfr 2 x.mv (by decide) rfl)) (fun i u b e1 e2 => .inl ⟨u, e1, e2⟩)
  rw [hmv] at hm ⊢
  subst hl
  have := own_set1 hm i (.bool a)
  simpa [List.map_set] using this
end
end Go.Proofs.Ytklkglbimjajnaa.sin
namespace Go.Proofs.Ytklkglbimjajnaa.sel
open Raft mem srun ssend sdown ssmall scopy srecs sapp ssame schos schosen scom sgrow sin
variable {F : Nat → Option Obj}
theorem info3 : (Try.prog.info? 3).map (fun i => (i.zero, i.size, i.bytes)) = some (some (.int .i64 0), 1, 8) := by kernel_rfl
section
variable {T : Ty} {w : World} {M : Fz} {base d P pc : Nat} {c : Cl} {us : List PV} {ns : List MV} {nv : Value} {cs : List RV} {cv : Value}
def riseP (p : Peer) : Peer := { p with role := 2, votes := [], next := [], mat := [] }
def riseV (x : PV) : PV := ⟨riseP x.p, x.lv, .slice none 0 0, .slice none 0 0, .slice none 0 0⟩
theorem Run.rise (h : Run T w M base d P pc c us ns nv cs cv) {k : Nat} {x : PV} (hk : us[k]? = some x) :
    Run T ((((w.setCell ⟨P, k * 9 + 4, none⟩ (.int .i64 2)).setCell ⟨P, k * 9 + 6, none⟩ (.slice none 0 0)).setCell ⟨P, k * 9 + 7, none⟩ (.slice none 0 0)).setCell ⟨P, k * 9 + 8, none⟩ (.slice none 0 0)) M base d P pc { c with peers := c.peers.set k (riseP x.p) } (us.set k (riseV x)) ns nv cs cv := by
  have h1 := sdown.Run.setScalar h (v := .int .i64 2) (j := 4) { x.p with role := 2 } hk (by decide) rfl rfl rfl rfl rfl
  have h2 := sdown.Run.noVotes h1 (got_set hk)
  have h3 := sdown.Run.noNext h2 (got_set (got_set hk))
  have h4 := sdown.Run.noMat h3 (got_set (got_set (got_set hk)))
  simp only [List.set_set] at h4
  exact h4
def ledP (p : Peer) (a b : Nat) : Peer := { p with role := 2, votes := [], next := List.replicate a (p.log.length + 1), mat := List.replicate b 0 }
def ledV (x : PV) (a b : Nat) (nv mv : Value) : PV := ⟨ledP x.p a b, x.lv, .slice none 0 0, nv, mv⟩
def LI (F : Nat → Option Obj) (w : World) (M : Fz) (base d P pc : Nat) (c : Cl) (us : List PV) (ns : List MV) (nv : Value) (cs : List RV) (cv : Value) (k : Nat) (x : PV) (a b : Nat) (nvv mvv : Value) (wr : World) : Prop := Run (TS F) wr M base d P pc { c with peers := c.peers.set k (ledP x.p a b) } (us.set k (ledV x a b nvv mvv)) ns nv cs cv ∧ Below base w wr
end
theorem set4_below {B : Nat} {A w : World} {P a b c e : Nat} {u1 u2 u3 u4 : Value} (hP : B ≤ P) (h : Below B A w) : Below B A ((((w.setCell ⟨P, a, none⟩ u1).setCell ⟨P, b, none⟩ u2).setCell ⟨P, c, none⟩ u3).setCell ⟨P, e, none⟩ u4) := (((h.setCell hP u1).setCell hP u2).setCell hP u3).setCell hP u4
section
variable {w wr : World} {M : Fz} {base d P pc : Nat} {c : Cl} {us : List PV} {ns : List MV} {nv : Value} {cs : List RV} {cv : Value} {k : Nat} {x : PV} {i a b : Nat}
theorem LI.first (h : Run (TS F) w M base d P pc c us ns nv cs cv) (hk : us[k]? = some x) : LI F w M base d P pc c us ns nv cs cv k x 0 0 (.slice none 0 0) (.slice none 0 0) ((((w.setCell ⟨P, k * 9 + 4, none⟩ (.int .i64 2)).setCell ⟨P, k * 9 + 6, none⟩ (.slice none 0 0)).setCell ⟨P, k * 9 + 7, none⟩ (.slice none 0 0)).setCell ⟨P, k * 9 + 8, none⟩ (.slice none 0 0)) :=
  ⟨Run.rise h hk, set4_below h.low.2 (Below.refl _ _)⟩
theorem LI.cells {nvv mvv : Value} (h : LI F w M base d P pc c us ns nv cs cv k x a b nvv mvv wr) (hk : us[k]? = some x) : (∃ no nc, nvv = .slice no a nc) ∧ (∃ mo mc, mvv = .slice mo b mc) ∧ wr.cell? ⟨d, 0, none⟩ = some (.slice (some ⟨P, 0, none⟩) us.length pc) ∧ (wr.cell? ⟨P, k * 9 + 5, none⟩ = some x.lv) ∧ (wr.cell? ⟨P, k * 9 + 7, none⟩ = some nvv ∧ wr.frozen? ⟨P, k * 9 + 7, none⟩ = false) ∧ (wr.cell? ⟨P, k * 9 + 8, none⟩ = some mvv ∧ wr.frozen? ⟨P, k * 9 + 8, none⟩ = false) := by
  obtain ⟨hr, hb⟩ := h
  have hg := got_set (x' := ledV x a b nvv mvv) hk
  have hm : ledV x a b nvv mvv ∈ us.set k (ledV x a b nvv mvv) := List.mem_iff_getElem?.2 ⟨k, hg⟩
  have n1 := hr.next _ hm
  have m1 := hr.mat _ hm
  refine ⟨?_, ?_, ?_, (hr.peerCell hg (j := 5) rfl).1, hr.peerCell hg (j := 7) rfl, hr.peerCell hg (j := 8) rfl⟩
  · obtain ⟨o, n, cc, e⟩ := sapp.own_slice n1
    have e' : nvv = .slice o n cc := e
    rw [e] at n1
    have := own_len n1
    exact ⟨o, cc, by rw [e', this]; simp [ledV, ledP]⟩
  · obtain ⟨o, n, cc, e⟩ := sapp.own_slice m1
    have e' : mvv = .slice o n cc := e
    rw [e] at m1
    have := own_len m1
    exact ⟨o, cc, by rw [e', this]; simp [ledV, ledP]⟩
  · have := ssend.cell_of hr.blk (i := 0) (v := .slice (some ⟨P, 0, none⟩) us.length pc) (by simp)
    exact this
theorem rep_snoc {a : Nat} (i : Nat) : List.replicate (i + 1) a = List.replicate i a ++ [a] := List.replicate_succ'
theorem LI.below {w1 : World} {nvv mvv : Value} (h : LI F w M base d P pc c us ns nv cs cv k x a b nvv mvv wr) (hb : Below wr.heap.size wr w1) : LI F w M base d P pc c us ns nv cs cv k x a b nvv mvv w1 := ⟨h.1.below hb, h.2.trans (hb.mono (scom.Run.base_le h.1))⟩
theorem LI.stepN {no : Option Addr} {nc : Nat} {mvv : Value} (h : LI F w M base d P pc c us ns nv cs cv k x a b (.slice no a nc) mvv wr) (hk : us[k]? = some x) (WX : World) (hx : Below wr.heap.size wr WX) (bl : Nat) (hbl : WX.heap[bl]? = some (.cells #[.int .i64 ((x.p.log.length : Int) + 1)] 3 (0, 0))) :
    ∃ ys, WX.ownsRow base 3 1 (.slice no a nc) a ys ∧ (∀ j u, ([.int .i64 ((x.p.log.length : Int) + 1)] : List Value)[j]? = some u → WX.cell? ((⟨bl, 0, none⟩ : Addr).add j) = some u) ∧ base ≤ WX.heap.size ∧
      ∀ g cap w2, w2.ownsRow base 3 1 (.slice (some ⟨g, 0, none⟩) (a + 1) cap) (a + 1) (ys ++ [.int .i64 ((x.p.log.length : Int) + 1)]) → WX.grownBy w2 (Value.slice no a nc).ownBlock → ((Value.slice no a nc).ownBlock = some g ∨ g = WX.heap.size) → (w2.cell? ⟨P, k * 9 + 7, none⟩ = some (.slice no a nc) ∧ w2.frozen? ⟨P, k * 9 + 7, none⟩ = false) ∧ LI F w M base d P pc c us ns nv cs cv k x (a + 1) b (.slice (some ⟨g, 0, none⟩) (a + 1) cap) mvv (w2.setCell ⟨P, k * 9 + 7, none⟩ (.slice (some ⟨g, 0, none⟩) (a + 1) cap)) := by
  have h' := LI.below h hx
  obtain ⟨hr, hb⟩ := h'
  have hg := got_set (x' := ledV x a b (.slice no a nc) mvv) hk
  have hm : ledV x a b (.slice no a nc) mvv ∈ us.set k (ledV x a b (.slice no a nc) mvv) := List.mem_iff_getElem?.2 ⟨k, hg⟩
  have n1 := hr.next _ hm
  have el : (ledV x a b (.slice no a nc) mvv).p.next.length = a := by simp [ledV, ledP]
  rw [el] at n1
  refine ⟨_, n1, ?_, scom.Run.base_le hr, ?_⟩
  · intro j u hu
    rw [ssend.addr_add, Nat.zero_add]
    exact ssend.cell_of hbl (by simpa using hu)
  · intro g cap w2 p1 p2 p3
    have hPl := hr.lt.2
    have hPn : ¬ (Value.slice no a nc).ownBlock = some P := fun e => hr.apart.2.2.1 ⟨k, _, 1, _, hg, rfl, e⟩
    have hP2 : w2.heap[P]? = WX.heap[P]? := p2.block P hPl (fun e => hPn e.symm)
    have hc := hr.peerCell hg (j := 7) (v := .slice no a nc) rfl
    refine ⟨⟨by rw [World.cell?_of_block hP2]; exact hc.1, by rw [World.frozen?_of_block hP2]; exact hc.2⟩, ?_, ?_⟩
    · have := Run.pushNext hr hg (x.p.log.length + 1) (g := g) (cap := cap) (by rw [el]; exact p1) p2 p3
      rw [el] at this
      simp only [List.set_set] at this
      have e1 : ({ (ledV x a b (.slice no a nc) mvv).p with next := (ledV x a b (.slice no a nc) mvv).p.next ++ [x.p.log.length + 1] } : Peer) = ledP x.p (a + 1) b := by simp [ledV, ledP, rep_snoc]
      rw [e1] at this
      exact this
    · exact ((hb.trans ⟨p2.os, p2.tape, p2.output, p2.size, fun q hq => p2.block q (by have := scom.Run.base_le hr; omega) (fun e => by have := (srun.row_lt n1 e.symm).1; omega)⟩)).setCell hr.low.2 _
theorem LI.stepM {mo : Option Addr} {mc : Nat} {nvv : Value} (h : LI F w M base d P pc c us ns nv cs cv k x a b nvv (.slice mo b mc) wr) (hk : us[k]? = some x) (WX : World) (hx : Below wr.heap.size wr WX) (bl : Nat) (hbl : WX.heap[bl]? = some (.cells #[.int .i64 0] 3 (0, 0))) :
    ∃ ys, WX.ownsRow base 3 1 (.slice mo b mc) b ys ∧ (∀ j u, ([.int .i64 0] : List Value)[j]? = some u → WX.cell? ((⟨bl, 0, none⟩ : Addr).add j) = some u) ∧ base ≤ WX.heap.size ∧
      ∀ g cap w2, w2.ownsRow base 3 1 (.slice (some ⟨g, 0, none⟩) (b + 1) cap) (b + 1) (ys ++ [.int .i64 0]) → WX.grownBy w2 (Value.slice mo b mc).ownBlock → ((Value.slice mo b mc).ownBlock = some g ∨ g = WX.heap.size) → (w2.cell? ⟨P, k * 9 + 8, none⟩ = some (.slice mo b mc) ∧ w2.frozen? ⟨P, k * 9 + 8, none⟩ = false) ∧ LI F w M base d P pc c us ns nv cs cv k x a (b + 1) nvv (.slice (some ⟨g, 0, none⟩) (b + 1) cap) (w2.setCell ⟨P, k * 9 + 8, none⟩ (.slice (some ⟨g, 0, none⟩) (b + 1) cap)) := by
  have h' := LI.below h hx
  obtain ⟨hr, hb⟩ := h'
  have hg := got_set (x' := ledV x a b nvv (.slice mo b mc)) hk
  have hm : ledV x a b nvv (.slice mo b mc) ∈ us.set k (ledV x a b nvv (.slice mo b mc)) := List.mem_iff_getElem?.2 ⟨k, hg⟩
  have n1 := hr.mat _ hm
  have el : (ledV x a b nvv (.slice mo b mc)).p.mat.length = b := by simp [ledV, ledP]
  rw [el] at n1
  refine ⟨_, n1, ?_, scom.Run.base_le hr, ?_⟩
  · intro j u hu
    rw [ssend.addr_add, Nat.zero_add]
    exact ssend.cell_of hbl (by simpa using hu)
  · intro g cap w2 p1 p2 p3
    have hPl := hr.lt.2
    have hPn : ¬ (Value.slice mo b mc).ownBlock = some P := fun e => hr.apart.2.2.1 ⟨k, _, 2, _, hg, rfl, e⟩
    have hP2 : w2.heap[P]? = WX.heap[P]? := p2.block P hPl (fun e => hPn e.symm)
    have hc := hr.peerCell hg (j := 8) (v := .slice mo b mc) rfl
    refine ⟨⟨by rw [World.cell?_of_block hP2]; exact hc.1, by rw [World.frozen?_of_block hP2]; exact hc.2⟩, ?_, ?_⟩
    · have := Run.pushMat hr hg 0 (g := g) (cap := cap) (by rw [el]; exact p1) p2 p3
      rw [el] at this
      simp only [List.set_set] at this
      have e1 : ({ (ledV x a b nvv (.slice mo b mc)).p with mat := (ledV x a b nvv (.slice mo b mc)).p.mat ++ [0] } : Peer) = ledP x.p a (b + 1) := by simp [ledV, ledP, rep_snoc]
      rw [e1] at this
      exact this
    · exact ((hb.trans ⟨p2.os, p2.tape, p2.output, p2.size, fun q hq => p2.block q (by have := scom.Run.base_le hr; omega) (fun e => by have := (srun.row_lt n1 e.symm).1; omega)⟩)).setCell hr.low.2 _
end
def tl (c : Cl) (k i : Nat) : Cl := ((List.range i).filter (· ≠ k)).foldl (fun c j => c.records k j) c
theorem tl_ne (c : Cl) {k i : Nat} (h : i ≠ k) : tl c k (i + 1) = (tl c k i).records k i := by
  unfold tl
  rw [List.range_succ, List.filter_append, List.foldl_append]
  simp [h]
theorem tl_eq (c : Cl) (k : Nat) : tl c k (k + 1) = tl c k k := by
  unfold tl
  rw [List.range_succ, List.filter_append, List.foldl_append]
  simp
theorem send_peers (c : Cl) (m : Msg) : (c.send m).peers = c.peers := by unfold Cl.send; split <;> rfl
theorem tl_peers (c : Cl) (k : Nat) : ∀ i, (tl c k i).peers = c.peers
  | 0 => rfl
  | i + 1 => by
    by_cases h : i = k
    · subst h; rw [tl_eq]; exact tl_peers c i i
    · rw [tl_ne c h]
      exact (send_peers _ _).trans (tl_peers c k i)
def L3 (F : Nat → Option Obj) (w : World) (M : Fz) (base d P pc : Nat) (c : Cl) (k i : Nat) (wr : World) : Prop := SD F w M base d P pc (tl c k i) wr
def leadP (p : Peer) (n k : Nat) : Peer := { p with role := 2, votes := [], next := List.replicate n (p.log.length + 1), mat := (List.replicate n 0).set k p.log.length }
theorem L3.step {w wr : World} {M : Fz} {base d P pc : Nat} {c : Cl} {k i U L : Nat} (h : L3 F w M base d P pc c k i wr) (hik : i ≠ k) (hk : k < c.peers.length) (hi : i < U) (hn : (c.at k).next = List.replicate U (L + 1)) (hl : (c.at k).log.length = L) (hL : L ≤ 1000) :
    Calls Try.prog 104 #[.pointer (some ⟨d, 0, none⟩), .int .i64 k, .int .i64 i] wr fun r w' => r = .returned (.tuple #[]) ∧ L3 F w M base d P pc c k (i + 1) w' := by
  obtain ⟨M', us, ns, nv, cs, cv, a1, a2, a3, a4⟩ := h
  have hp := tl_peers c k i
  have hul : us.length = c.peers.length := by rw [← hp, ← a3.peers, List.length_map]
  obtain ⟨x, hx⟩ : ∃ x, us[k]? = some x := ⟨_, List.getElem?_eq_getElem (by omega)⟩
  have hat := (sdown.Run.at a3 hx).1
  have hat2 : c.at k = x.p := by rw [← hat]; unfold Cl.at; rw [hp]
  rw [hat2] at hn hl
  refine (append_any wr M' base d P pc _ us ns nv cs cv a3 k i x hx (L + 1) (by rw [hn, List.getElem?_replicate]; simp [hi]) (by omega) (by omega) (by omega)).mono ?_
  rintro r w' ⟨rfl, M2, ns2, nv2, b1, b2, b3, b4⟩
  refine ⟨rfl, M2, us, ns2, nv2, cs, cv, a1.trans b1, a2.trans ⟨b3.os, b3.tape, b3.output, b3.size, fun q hq => b3.block q (by have := scom.Run.base_le a3; omega) (fun e => by simp only [Option.some.injEq] at e; have := a3.low.1; omega)⟩, ?_, fun b hb => ?_⟩
  · rw [tl_ne c hik]; exact b2
  · rcases b4 b hb with g | g
    · exact a4 b g
    · exact .inr (by have := scom.Run.base_le a3; omega)
theorem L3.skip {w wr : World} {M : Fz} {base d P pc : Nat} {c : Cl} {k : Nat} (h : L3 F w M base d P pc c k k wr) : L3 F w M base d P pc c k (k + 1) wr := by unfold L3; rw [tl_eq]; exact h
theorem L3.cell {w wr : World} {M : Fz} {base d P pc : Nat} {c : Cl} {k i : Nat} (h : L3 F w M base d P pc c k i wr) : wr.cell? ⟨d, 0, none⟩ = some (.slice (some ⟨P, 0, none⟩) c.peers.length pc) := by
  obtain ⟨M', us, ns, nv, cs, cv, a1, a2, a3, a4⟩ := h
  have hul : us.length = c.peers.length := by rw [← tl_peers c k i, ← a3.peers, List.length_map]
  have := ssend.cell_of a3.blk (i := 0) (v := .slice (some ⟨P, 0, none⟩) us.length pc) rfl
  rw [hul] at this
  exact this
theorem commits_at (c : Cl) {k : Nat} (hk : k < c.peers.length) : (c.commits k).peers.length = c.peers.length ∧ ((c.commits k).at k).next = (c.at k).next ∧ ((c.commits k).at k).log = (c.at k).log := by
  have e : (c.commits k).peers = c.peers.set k { c.at k with commit := reach (c.at k) c.peers.length (c.at k).log.length } := rfl
  have e2 : (c.commits k).at k = { c.at k with commit := reach (c.at k) c.peers.length (c.at k).log.length } := by
    unfold Cl.at
    rw [e, List.getD_eq_getElem?_getD, List.getElem?_set_self hk]
    rfl
  exact ⟨by rw [e]; simp, by rw [e2], by rw [e2]⟩
theorem countP_id_take {l : List Bool} {j : Nat} {m : Bool} (h : l[j]? = some m) : (l.take (j + 1)).countP id = (l.take j).countP id + (if m then 1 else 0) := by
  rw [List.take_add_one, h, List.countP_append]
  cases m <;> simp
end Go.Proofs.Ytklkglbimjajnaa.sel
namespace Go.Proofs.Ytklkglbimjajnaa.stk
open Raft mem srun ssend sdown ssmall scopy srecs sapp ssame schos schosen scom sgrow sin sel
variable {F : Nat → Option Obj}
theorem SD.sent {w wr w' : World} {M M' : Fz} {base d P pc : Nat} {c c' : Cl} {us : List PV} {ns : List MV} {nv : Value} {cs : List RV} {cv : Value} (a1 : Le M M') (a2 : Below base w wr) (a3 : Run (TS F) wr M' base d P pc c us ns nv cs cv) (a4 : ∀ b, M' b ≠ none → M b ≠ none ∨ base ≤ b) (hs : Sent F wr M' base d P pc c' us cs cv w') : SD F w M base d P pc c' w' := by
  obtain ⟨M2, ns2, nv2, b1, b2, b3, b4⟩ := hs
  refine ⟨M2, us, ns2, nv2, cs, cv, a1.trans b1, a2.trans ⟨b3.os, b3.tape, b3.output, b3.size, fun q hq => b3.block q (by have := scom.Run.base_le a3; omega) (fun e => by simp only [Option.some.injEq] at e; have := a3.low.1; omega)⟩, b2, fun b hb => ?_⟩
  rcases b4 b hb with g | g
  · exact a4 b g
  · exact .inr (by have := scom.Run.base_le a3; omega)
theorem L3.stepG {w wr : World} {M : Fz} {base d P pc : Nat} {c : Cl} {k i f : Nat} (h : L3 F w M base d P pc c k i wr) (hik : i ≠ k) (hk : k < c.peers.length) (hn : (c.at k).next[i]? = some f) (h1 : 1 ≤ f) (h2 : f ≤ (c.at k).log.length + 1) (hL : (c.at k).log.length ≤ 1000) :
    Calls Try.prog 104 #[.pointer (some ⟨d, 0, none⟩), .int .i64 k, .int .i64 i] wr fun r w' => r = .returned (.tuple #[]) ∧ L3 F w M base d P pc c k (i + 1) w' := by
  obtain ⟨M', us, ns, nv, cs, cv, a1, a2, a3, a4⟩ := h
  have hp := tl_peers c k i
  have hul : us.length = c.peers.length := by rw [← hp, ← a3.peers, List.length_map]
  obtain ⟨x, hx⟩ : ∃ x, us[k]? = some x := ⟨_, List.getElem?_eq_getElem (by omega)⟩
  have hat := (sdown.Run.at a3 hx).1
  have hat2 : c.at k = x.p := by rw [← hat]; unfold Cl.at; rw [hp]
  rw [hat2] at hn h2 hL
  refine (append_any wr M' base d P pc _ us ns nv cs cv a3 k i x hx f hn h1 h2 hL).mono ?_
  rintro r w' ⟨rfl, hs⟩
  refine ⟨rfl, ?_⟩
  unfold L3
  rw [tl_ne c hik]
  exact SD.sent a1 a2 a3 a4 hs
def vl (c : Cl) (k : Nat) (m : Nat → Msg) (i : Nat) : Cl := ((List.range i).filter (· ≠ k)).foldl (fun c j => c.send (m j)) c
theorem vl_ne (c : Cl) {k i : Nat} (m : Nat → Msg) (h : i ≠ k) : vl c k m (i + 1) = (vl c k m i).send (m i) := by
  unfold vl
  rw [List.range_succ, List.filter_append, List.foldl_append]
  simp [h]
theorem vl_eq (c : Cl) (k : Nat) (m : Nat → Msg) : vl c k m (k + 1) = vl c k m k := by
  unfold vl
  rw [List.range_succ, List.filter_append, List.foldl_append]
  simp
theorem vl_peers (c : Cl) (k : Nat) (m : Nat → Msg) : ∀ i, (vl c k m i).peers = c.peers
  | 0 => rfl
  | i + 1 => by
    by_cases h : i = k
    · subst h; rw [vl_eq]; exact vl_peers c i m i
    · rw [vl_ne c m h]
      exact (Raft.send_peers _ _).trans (vl_peers c k m i)
theorem send_chosen (c : Cl) (m : Msg) : (c.send m).chosen = c.chosen := by unfold Cl.send; split <;> rfl
theorem vl_chosen (c : Cl) (k : Nat) (m : Nat → Msg) : ∀ i, (vl c k m i).chosen = c.chosen
  | 0 => rfl
  | i + 1 => by
    by_cases h : i = k
    · subst h; rw [vl_eq]; exact vl_chosen c i m i
    · rw [vl_ne c m h]
      exact (send_chosen _ _).trans (vl_chosen c k m i)
def V3 (F : Nat → Option Obj) (w : World) (M : Fz) (base d P pc : Nat) (c : Cl) (k : Nat) (m : Nat → Msg) (i : Nat) (wr : World) : Prop := SD F w M base d P pc (vl c k m i) wr
theorem V3.step {w wr : World} {M : Fz} {base d P pc : Nat} {c : Cl} {k i : Nat} {m : Nat → Msg} (h : V3 F w M base d P pc c k m i wr) (hik : i ≠ k) (hm : (m i).log = []) :
    Calls Try.prog 51 #[.pointer (some ⟨d, 0, none⟩), .agg #[.int .i64 (m i).kind, .int .i64 (m i).frm, .int .i64 (m i).to, .int .i64 (m i).term, .int .i64 (m i).a, .int .i64 (m i).b, .int .i64 (m i).c, .bool (m i).ok, .slice none 0 0]] wr fun r w' => r = .returned (.tuple #[]) ∧ V3 F w M base d P pc c k m (i + 1) w' := by
  obtain ⟨M', us, ns, nv, cs, cv, a1, a2, a3, a4⟩ := h
  refine (send_any wr M' base d P pc _ us ns nv cs cv a3 (m i) none 0 0 (by rw [hm]; exact RecsM.nil M')).mono ?_
  rintro r w' ⟨rfl, hs⟩
  refine ⟨rfl, ?_⟩
  unfold V3
  rw [vl_ne c m hik]
  exact SD.sent a1 a2 a3 a4 hs
theorem V3.skip {w wr : World} {M : Fz} {base d P pc : Nat} {c : Cl} {k : Nat} {m : Nat → Msg} (h : V3 F w M base d P pc c k m k wr) : V3 F w M base d P pc c k m (k + 1) wr := by unfold V3; rw [vl_eq]; exact h
section
variable {T : Ty} {w : World} {M : Fz} {base d P pc : Nat} {c : Cl} {us : List PV} {ns : List MV} {nv : Value} {cs : List RV} {cv : Value}
theorem Run.newVotes (h : Run T w M base d P pc c us ns nv cs cv) {k : Nat} {x : PV} (hk : us[k]? = some x) (vs : List Bool) {w2 : World} {g cap : Nat} (hO : w2.ownsRow base 4 1 (.slice (some ⟨g, 0, none⟩) vs.length cap) vs.length (vs.map Value.bool)) (hG : w.grownBy w2 none) (hg : g = w.heap.size) :
    Run T (w2.setCell ⟨P, k * 9 + 6, none⟩ (.slice (some ⟨g, 0, none⟩) vs.length cap)) M base d P pc { c with peers := c.peers.set k { x.p with votes := vs } } (us.set k { x with p := { x.p with votes := vs }, vv := .slice (some ⟨g, 0, none⟩) vs.length cap }) ns nv cs cv := by
  have hx : x ∈ us := List.mem_iff_getElem?.2 ⟨k, hk⟩
  have hG' : w.grownBy w2 x.vv.ownBlock := ⟨hG.os, hG.tape, hG.output, hG.size, fun b hb _ => hG.block b hb (by simp)⟩
  have hfr : ∀ j u, j ≠ 0 → (rows x)[j]? = some u → ∀ b : Nat, Value.ownBlock u = some b → w2.heap[b]? = w.heap[b]? := fun j u hj hu b hb => hG.block b (h.blocks_lt ⟨k, x, j, u, hk, hu, hb⟩).2 (by simp)
  refine sgrow.Run.swap h (x' := { x with p := { x.p with votes := vs }, vv := .slice (some ⟨g, 0, none⟩) vs.length cap }) hk (i := 0) (u := x.vv) rfl hG' (by decide) rfl (h.logs x hx) hO (srun.row_kept (h.next x hx) (hfr 1 x.nv (by decide) rfl)) (srun.row_kept (h.mat x hx) (hfr 2 x.mv (by decide) rfl)) (fun i u b e1 e2 => ?_)
  have fresh : ¬ Mine d P us cv g ∧ (M g = none ∧ T.far g = none) := ⟨fun hm => by have := h.mine hm; omega, h.inn.fresh (by omega), h.farN (by omega)⟩
  match i, e1 with
  | 0, e1 =>
    simp [rows] at e1
    subst e1
    obtain rfl : g = b := by simpa [Value.ownBlock] using e2
    refine .inr ⟨fresh.1, fresh.2, fun i' u' h1 h2 => ?_⟩
    match i', h1 with
    | 0, h1 => rfl
    | 1, h1 => simp [rows] at h1; subst h1; exact absurd (.inr (.inr (.inl ⟨k, x, 1, x.nv, hk, rfl, h2⟩))) fresh.1
    | 2, h1 => simp [rows] at h1; subst h1; exact absurd (.inr (.inr (.inl ⟨k, x, 2, x.mv, hk, rfl, h2⟩))) fresh.1
    | i' + 3, h1 => simp [rows] at h1
  | 1, e1 => exact .inl ⟨u, e1, e2⟩
  | 2, e1 => exact .inl ⟨u, e1, e2⟩
  | i + 3, e1 => simp [rows] at e1
end
end Go.Proofs.Ytklkglbimjajnaa.stk
namespace Go.Proofs.Ytklkglbimjajnaa.slog
open Raft mem srun ssend sdown ssmall scopy srecs sapp ssame schos schosen
variable {F : Nat → Option Obj}
theorem wpList_append_row {P : Program} (w : World) {ops : Array Oper} {rest : List Oper} {o : Oper} {a : Act} {Q : Exit → Act → World → Prop} (hgd : o.guard = none) (s x : Operand) (t : TypeId)
    (ho : o.op = .call { callee := .builtin .append, args := #[s, x], argTypes := #[t, t] }) (e sz by_ : Nat) (z : Value) (ht : P.underlying t = some (.slice e))
    (hi : (P.info? e).map (fun i => (i.zero, i.size, i.bytes)) = some (some z, sz, by_)) (hz : z.cells.size = sz) (hsz : 0 < sz)
    (base : Nat) (v : Value) (n : Nat) (xs : List Value) (hs : a.eval s = v) (hown : w.ownsRow base e sz v n xs) (u : Value) (m : Nat) (ys : List Value) (hx : a.eval x = u) (hr : RowW w u m sz ys) (h1 : ∀ y ∈ ys, y.oneCell' = true)
    (hlen : (n + m) * by_ ≤ 140737488355328) (hby : 0 < by_) (hbase : base ≤ w.heap.size)
    (h : ∀ v' w', w'.ownsRow base e sz v' (n + m) (xs ++ ys) → w.grownBy w' v.ownBlock → wpList P ops Q rest (a.put o.dst v') w') : wpList P ops Q (o :: rest) a w := by
  obtain ⟨i0, hi1, hz0, hz1, hz2⟩ := info_parts hi
  obtain ⟨ao, cap, rfl, h3, h4, h5⟩ := hr
  cases ao with
  | none =>
    obtain ⟨rfl, rfl⟩ := h4 rfl
    obtain rfl : ys = [] := List.length_eq_zero_iff.1 (by omega)
    refine wpList_append_own_none hgd s x t ho base e i0 sz ht hi1 v n _ hs hown hx ?_
    exact h v w (by simpa using hown) (World.grownBy.refl _ _)
  | some ad =>
    refine wpList_append_own w hgd s x t ho base e i0 z sz by_ ht hi1 hz0 hz1 hz2 hz hsz v n xs hs hown ad m cap ys hx h3 ?_ h1 (by unfold maxLen; have : n + m ≤ (n + m) * by_ := Nat.le_mul_of_pos_right _ hby; omega) hlen hbase ?_
    · intro j y hy
      have hp : 0 < m := by
        have := (List.getElem?_eq_some_iff.1 hy).1
        rcases Nat.eq_zero_or_pos m with h0 | h0
        · rw [h0] at h3; omega
        · exact h0
      obtain ⟨b, off, e', hc⟩ := h5 hp
      simp only [Option.some.injEq] at e'
      subst e'
      rw [addr_add]
      exact hc j y hy
    · intro v' w' hown' hgrow _
      exact h v' w' hown' hgrow
def putR (l : List Rc) (a : Nat) (r : Rc) : List Rc :=
  let m := if a < l.length ∧ termAt l (a + 1) ≠ r.term then l.take a else l
  if a = m.length then m ++ [r] else m
theorem merge_cons (l : List Rc) (a : Nat) (r : Rc) (rs : List Rc) : merge l a (r :: rs) = merge (putR l a r) (a + 1) rs := rfl
theorem merge_snoc : ∀ (rs : List Rc) (l : List Rc) (a : Nat) (r : Rc), merge l a (rs ++ [r]) = putR (merge l a rs) (a + rs.length) r
  | [], l, a, r => rfl
  | x :: rs, l, a, r => by
    rw [List.cons_append, merge_cons, merge_cons, merge_snoc rs, List.length_cons]
    congr 1
    omega
theorem merge_take {l rs : List Rc} {a j : Nat} {r : Rc} (h : rs[j]? = some r) : merge l a (rs.take (j + 1)) = putR (merge l a (rs.take j)) (a + j) r := by
  rw [take_snoc h, merge_snoc, List.length_take]
  have := (List.getElem?_eq_some_iff.1 h).1
  rw [Nat.min_eq_left (by omega)]
theorem Log.cut {W wr : World} {M M' : Fz} {g n cap : Nat} {l : List Rc} {ls : List RV} (h : Log W wr M (.slice (some ⟨g, 0, none⟩) n cap) l M' ls) {i : Nat} (hi : i ≤ ls.length) : Log W wr M (.slice (some ⟨g, 0, none⟩) i cap) (l.take i) M' (ls.take i) where
  le := h.le
  inn := h.inn
  row := by
    obtain ⟨h1, ⟨e, _⟩ | ⟨g', cap', cur, e, hb, hg, hnc, hcm, hcs, ht⟩⟩ := h.row
    · cases e
    · simp only [Value.slice.injEq, Option.some.injEq, Addr.mk.injEq, and_true] at e
      obtain ⟨rfl, rfl, rfl⟩ := e
      have hl : (ls.take i).length = i := by rw [List.length_take]; omega
      have hft : (ls.take i).flatMap recCells = (ls.flatMap recCells).take (i * 3) := by
        have e1 : ls.flatMap recCells = (ls.take i).flatMap recCells ++ (ls.drop i).flatMap recCells := by rw [← List.flatMap_append, List.take_append_drop]
        have e2 : ((ls.take i).flatMap recCells).length = i * 3 := by rw [flat_len recCells 3 recCells_len, hl]
        rw [e1, ← e2]
        exact List.take_left.symm
      rw [hl]
      refine ⟨by rw [flat_len recCells 3 recCells_len, hl], .inr ⟨g, cap, cur, rfl, hb, hg, by omega, hcm, hcs, ?_⟩⟩
      rw [hft, ← ht, List.take_take, Nat.min_eq_left (by omega)]
  recs := by rw [List.map_take, h.recs]
  data := fun y hy => h.data y (List.mem_of_mem_take hy)
  bel := h.bel
  dom := h.dom
theorem Log.cell {W wr : World} {M M' : Fz} {g n cap : Nat} {l : List Rc} {ls : List RV} (h : Log W wr M (.slice (some ⟨g, 0, none⟩) n cap) l M' ls) {i : Nat} {r : Rc} (hr : l[i]? = some r) : wr.cell? ⟨g, i * 3, none⟩ = some (.int .i64 r.term) := by
  obtain ⟨h1, ⟨e, _⟩ | ⟨g', cap', cur, e, hb, hg, hnc, hcm, hcs, ht⟩⟩ := h.row
  · cases e
  · simp only [Value.slice.injEq, Option.some.injEq, Addr.mk.injEq, and_true] at e
    obtain ⟨rfl, rfl, rfl⟩ := e
    rw [← h.recs, List.getElem?_map] at hr
    obtain ⟨y, hy, rfl⟩ := Option.map_eq_some_iff.1 hr
    have hlt := (List.getElem?_eq_some_iff.1 hy).1
    refine cell_of hg ?_
    have e1 := flat_get recCells 3 recCells_len ls i 0 y hy (by decide)
    rw [← ht, List.getElem?_take_of_lt (by omega), Nat.add_zero] at e1
    simpa [recCells] using e1
theorem Log.len {W wr : World} {M M' : Fz} {o : Option Addr} {n cap : Nat} {l : List Rc} {ls : List RV} (h : Log W wr M (.slice o n cap) l M' ls) : n = l.length ∧ ls.length = l.length ∧ n ≤ cap ∧ cap ≤ maxLen := by
  have e1 : ls.length = l.length := by rw [← h.recs, List.length_map]
  obtain ⟨h1, ⟨e, e0⟩ | ⟨g', cap', cur, e, hb, hg, hnc, hcm, hcs, ht⟩⟩ := h.row
  · simp only [Value.slice.injEq] at e
    obtain ⟨_, rfl, rfl⟩ := e
    exact ⟨by omega, e1, Nat.le_refl _, by simp [maxLen]⟩
  · simp only [Value.slice.injEq] at e
    obtain ⟨_, rfl, rfl⟩ := e
    exact ⟨by omega, e1, by omega, hcm⟩
theorem Log.form {W wr : World} {M M' : Fz} {o : Option Addr} {n cap : Nat} {l : List Rc} {ls : List RV} (h : Log W wr M (.slice o n cap) l M' ls) (hp : 0 < n) : ∃ g, o = some ⟨g, 0, none⟩ := by
  obtain ⟨h1, ⟨e, e0⟩ | ⟨g', cap', cur, e, hb, hg, hnc, hcm, hcs, ht⟩⟩ := h.row
  · simp only [Value.slice.injEq] at e; omega
  · simp only [Value.slice.injEq] at e; exact ⟨g', e.1⟩
theorem Log.below {W wr w1 : World} {M M' : Fz} {lv : Value} {l : List Rc} {ls : List RV} (h : Log W wr M lv l M' ls) (hb : Below wr.heap.size wr w1) : Log W w1 M lv l M' ls :=
  ⟨h.le, h.inn.below hb, row_kept h.row (fun g hg => hb.block g (row_lt h.row hg).2), h.recs, h.data, h.bel.trans (hb.mono h.bel.size), h.dom⟩
theorem Log.begin {W w1 w2 : World} {M : Fz} {v2 : Value} {us : List RV} (hI : In M W) (hd : ∀ x ∈ us, BytesM M x.dv x.r.data ∧ x.r.data.length ≤ 1000) (hb : Below W.heap.size W w2) (hO : w2.ownsRow W.heap.size 38 3 v2 us.length (us.flatMap recCells)) : Log W w2 M v2 (us.map (·.r)) M us :=
  ⟨Le.refl M, hI.below hb, hO, rfl, hd, hb, fun b ob hb => .inl hb⟩
end Go.Proofs.Ytklkglbimjajnaa.slog
namespace Go.Proofs.Ytklkglbimjajnaa.sap0
open Raft mem srun ssend sdown ssmall scopy srecs sapp ssame schos schosen scom sgrow sin sel stk slog
variable {F : Nat → Option Obj}
theorem fold_dn (W : World) (n : Nat) : ∃ W1, W.drewN n = W1 ∧ Below W.heap.size W W1 ∧ W1.heap.size = W.heap.size := ⟨_, rfl, below_drewN (Below.refl _ _) n, rfl⟩
structure St2 (F : Nat → Option Obj) (w : World) (M : Fz) (base d P pc : Nat) (mc bk : Array Value) (c : Cl) (us : List PV) (ns : List MV) (nv : Value) (cs : List RV) (cv : Value) (M' : Fz) (wr : World) : Prop where
  run : Run (TS F) wr M' base d P pc c us ns nv cs cv
  le : Le M M'
  bel : Below base w wr
  dom : ∀ b, M' b ≠ none → M b ≠ none ∨ base ≤ b
  b0 : wr.heap[w.heap.size]? = some (.cells mc 98 (0, 0))
  b1 : wr.heap[w.heap.size + 1]? = some (.cells bk 98 (0, 0))
  no : ∀ b, Mine d P us cv b → b < w.heap.size ∨ w.heap.size + 1 < b
  fz : M' w.heap.size = none ∧ M' (w.heap.size + 1) = none
  nf : ∀ b o, F b = some o → b < w.heap.size
section
variable {w : World} {M : Fz} {base d P pc : Nat} {mc bk : Array Value} {c : Cl} {us : List PV} {ns : List MV} {nv : Value} {cs : List RV} {cv : Value} {M' : Fz} {wr : World}
theorem St2.lt (h : St2 F w M base d P pc mc bk c us ns nv cs cv M' wr) : w.heap.size + 1 < wr.heap.size := (Array.getElem?_eq_some_iff.1 h.b1).1
theorem St2.low (h : St2 F w M base d P pc mc bk c us ns nv cs cv M' wr) : base ≤ wr.heap.size := scom.Run.base_le h.run
theorem St2.below (h : St2 F w M base d P pc mc bk c us ns nv cs cv M' wr) {wx : World} (hb : Below wr.heap.size wr wx) : St2 F w M base d P pc mc bk c us ns nv cs cv M' wx :=
  ⟨h.run.below hb, h.le, h.bel.trans (hb.mono h.low), h.dom, kept hb h.b0 (Nat.le_refl _), kept hb h.b1 (Nat.le_refl _), h.no, h.fz, h.nf⟩
theorem St2.box (h : St2 F w M base d P pc mc bk c us ns nv cs cv M' wr) (j : Nat) (v : Value) (hw : base ≤ w.heap.size) : St2 F w M base d P pc mc (bk.setIfInBounds j v) c us ns nv cs cv M' (wr.setCell ⟨w.heap.size + 1, j, none⟩ v) := by
  have hne : ∀ b, b ≠ w.heap.size + 1 → (wr.setCell ⟨w.heap.size + 1, j, none⟩ v).heap[b]? = wr.heap[b]? := fun b hb => Below.heap_setCell wr ⟨w.heap.size + 1, j, none⟩ v b hb
  exact ⟨h.run.keep (Le.refl _) (h.run.inn.set h.fz.2 v) (fun b hb => hne b (by rcases h.no b hb with g | g <;> omega)) h.run.free (fun b o e => ⟨(hne b (by have := h.nf b o e; omega)).trans (h.run.far b o e).1, (h.run.far b o e).2.1⟩), h.le, h.bel.setCell (by show base ≤ w.heap.size + 1; omega) v, h.dom, (hne _ (by omega)).trans h.b0, heap_setCell_same wr _ j bk 98 v h.b1, h.no, h.fz, h.nf⟩
theorem St2.peer (h : St2 F w M base d P pc mc bk c us ns nv cs cv M' wr) {k j : Nat} {x : PV} {v : Value} (p' : Peer) (lv' : Value) (hk : us[k]? = some x) (hj : j < 9) (hc : peerCells { x with p := p', lv := lv' } = (peerCells x).set j v)
    (h1 : RecsM M' lv' p'.log) (h2 : p'.votes = x.p.votes) (h3 : p'.next = x.p.next) (h4 : p'.mat = x.p.mat) :
    St2 F w M base d P pc mc bk { c with peers := c.peers.set k p' } (us.set k { x with p := p', lv := lv' }) ns nv cs cv M' (wr.setCell ⟨P, k * 9 + j, none⟩ v) := by
  have hx : x ∈ us := List.mem_iff_getElem?.2 ⟨k, hk⟩
  have hPn := h.no P (.inr (.inl rfl))
  have hne : ∀ b, b ≠ P → (wr.setCell ⟨P, k * 9 + j, none⟩ v).heap[b]? = wr.heap[b]? := fun b hb => Below.heap_setCell wr ⟨P, k * 9 + j, none⟩ v b hb
  refine ⟨h.run.setPeer hk hj hc h1 ?_ ?_ ?_ (fun i u b e1 _ => .inl e1), h.le, h.bel.setCell h.run.low.2 v, h.dom, (hne _ (by omega)).trans h.b0, (hne _ (by omega)).trans h.b1, fun b hb => ?_, h.fz, h.nf⟩
  · show wr.ownsRow base 4 1 x.vv p'.votes.length _
    rw [h2]; exact h.run.votes x hx
  · show wr.ownsRow base 3 1 x.nv p'.next.length _
    rw [h3]; exact h.run.next x hx
  · show wr.ownsRow base 3 1 x.mv p'.mat.length _
    rw [h4]; exact h.run.mat x hx
  · rcases hb with hb | hb | hb | hb
    · exact h.no b (.inl hb)
    · exact h.no b (.inr (.inl hb))
    · obtain ⟨k1, y, i, u, e1, e2, e3⟩ := hb
      by_cases e : k1 = k
      · subst e
        rw [List.getElem?_set_self (List.getElem?_eq_some_iff.1 hk).1] at e1
        obtain rfl := Option.some.inj e1
        exact h.no b (.inr (.inr (.inl ⟨k1, x, i, u, hk, e2, e3⟩)))
      · rw [List.getElem?_set_ne (Ne.symm e)] at e1
        exact h.no b (.inr (.inr (.inl ⟨k1, y, i, u, e1, e2, e3⟩)))
    · exact h.no b (.inr (.inr (.inr hb)))
theorem St2.freeze (h : St2 F w M base d P pc mc bk c us ns nv cs cv M' wr) {wx : World} {M2 : Fz} (hb : Below wr.heap.size wr wx) (hl : Le M' M2) (hI : In M2 wx) (hd : ∀ b, M2 b ≠ none → M' b ≠ none ∨ wr.heap.size ≤ b) : St2 F w M base d P pc mc bk c us ns nv cs cv M2 wx := by
  have hf : ∀ b, M' b = none → b < wr.heap.size → M2 b = none := fun b e hlt => by
    cases e2 : M2 b with
    | none => rfl
    | some o =>
      rcases hd b (by rw [e2]; simp) with g | g
      · exact absurd e g
      · omega
  have hl2 := h.lt
  exact ⟨h.run.keep hl hI (fun b hm => hb.block b (h.run.mine hm)) (fun b hm => hf b (h.run.free b hm) (h.run.mine hm)) (fun b o e => ⟨(hb.block b (h.run.farL e)).trans (h.run.far b o e).1, hf b (h.run.far b o e).2.1 (h.run.farL e)⟩), h.le.trans hl, h.bel.trans (hb.mono h.low), fun b hb' => (hd b hb').elim (h.dom b) (fun g => .inr (by have := h.low; omega)), kept hb h.b0 (Nat.le_refl _), kept hb h.b1 (Nat.le_refl _), h.no, ⟨hf _ h.fz.1 (by omega), hf _ h.fz.2 (by omega)⟩, h.nf⟩
theorem St2.down (h : St2 F w M base d P pc mc bk c us ns nv cs cv M' wr) (k t : Nat) (x : PV) (hk : us[k]? = some x) :
    Calls Try.prog 100 #[.pointer (some ⟨d, 0, none⟩), .int .i64 k, .int .i64 t] wr fun r w' => r = .returned (.tuple #[]) ∧ St2 F w M base d P pc mc bk (c.down k t) (us.set k (downV x t)) ns nv cs cv M' w' := by
  refine (down_any wr M' base d P pc c us ns nv cs cv h.run k t x hk).mono ?_
  rintro r w' ⟨rfl, h1, g⟩
  have hPn := h.no P (.inr (.inl rfl))
  have hl := h.lt
  have hP : base ≤ P := h.run.low.2
  refine ⟨rfl, h1, h.le, h.bel.trans ⟨g.os, g.tape, g.output, g.size, fun b hb => g.block b (by have := h.low; omega) (fun e => by simp only [Option.some.injEq] at e; omega)⟩, h.dom, ?_, ?_, fun b hb => ?_, h.fz, h.nf⟩
  · exact (g.block _ (by omega) (fun e => by simp only [Option.some.injEq] at e; omega)).trans h.b0
  · exact (g.block _ (by omega) (fun e => by simp only [Option.some.injEq] at e; omega)).trans h.b1
  · rcases hb with hb | hb | hb | hb
    · exact h.no b (.inl hb)
    · exact h.no b (.inr (.inl hb))
    · obtain ⟨k1, y, i, u, e1, e2, e3⟩ := hb
      by_cases e : k1 = k
      · subst e
        rw [List.getElem?_set_self (List.getElem?_eq_some_iff.1 hk).1] at e1
        obtain rfl := Option.some.inj e1
        have : u = .slice none 0 0 := by
          rcases i with _ | _ | _ | i <;> simp [rows, downV, lowV] at e2 <;> exact e2.symm
        subst this
        simp [Value.ownBlock] at e3
      · rw [List.getElem?_set_ne (Ne.symm e)] at e1
        exact h.no b (.inr (.inr (.inl ⟨k1, y, i, u, e1, e2, e3⟩)))
    · exact h.no b (.inr (.inr (.inr hb)))
theorem St2.send (h : St2 F w M base d P pc mc bk c us ns nv cs cv M' wr) (m : Msg) (lo : Option Addr) (ln lc : Nat) (hlv : RecsM M' (.slice lo ln lc) m.log) :
    Calls Try.prog 51 #[.pointer (some ⟨d, 0, none⟩), .agg #[.int .i64 m.kind, .int .i64 m.frm, .int .i64 m.to, .int .i64 m.term, .int .i64 m.a, .int .i64 m.b, .int .i64 m.c, .bool m.ok, .slice lo ln lc]] wr fun r w' => r = .returned (.tuple #[]) ∧ SD F w M base d P pc (c.send m) w' := by
  refine (send_any wr M' base d P pc c us ns nv cs cv h.run m lo ln lc hlv).mono ?_
  rintro r w' ⟨rfl, hs⟩
  exact ⟨rfl, SD.sent h.le h.bel h.run h.dom hs⟩
theorem St2.note (h : St2 F w M base d P pc mc bk c us ns nv cs cv M' wr) (k : Nat) (x : PV) (hk : us[k]? = some x) (hcm : x.p.commit ≤ x.p.log.length) (hlen : x.p.log.length ≤ 1000) (hcl : c.chosen.length ≤ 1000) :
    Calls Try.prog 106 #[.pointer (some ⟨d, 0, none⟩), .int .i64 k] wr fun r w' => r = .returned (.tuple #[]) ∧ ∃ M2 cs2 cv2, St2 F w M base d P pc mc bk (c.note k) us ns nv cs2 cv2 M2 w' := by
  refine (chosen_any wr M' base d P pc c us ns nv cs cv h.run k x hk hcm hlen hcl).mono ?_
  rintro r w' ⟨rfl, hn⟩
  obtain ⟨M3, us3, ns3, nv3, cs3, cv3, q1, q2, q3, q4⟩ := noted_sd h.run hk hcm hn
  obtain ⟨W, M2, cs2, cv2, hb, hr⟩ := hn
  have hl := h.lt
  have hcd : ∀ b, (b = w.heap.size ∨ b = w.heap.size + 1) → w'.heap[b]? = wr.heap[b]? := fun b hbb => by
    rw [hr.chg.block b (by have := hb.size; omega) (by
      rintro (e | e | e)
      · have := h.no b (.inl e); omega
      · have := h.no b (.inr (.inr (.inr e))); omega
      · omega)]
    exact hb.block b (by omega)
  have hf : ∀ b, M' b = none → b < wr.heap.size → M2 b = none := fun b e hlt => by
    cases e2 : M2 b with
    | none => rfl
    | some o =>
      rcases hr.dom b (by rw [e2]; simp) with g | g
      · exact absurd e g
      · omega
  have e := note_eq c k
  rw [(sdown.Run.at h.run hk).1] at e
  rw [List.length_take, Nat.min_eq_left hcm] at e
  refine ⟨rfl, M2, cs2, cv2, by rw [e]; exact hr.run, h.le.trans hr.le, h.bel.trans q2, fun b hb' => (hr.dom b hb').elim (h.dom b) (fun g => .inr (by have := h.low; omega)), (hcd _ (.inl rfl)).trans h.b0, (hcd _ (.inr rfl)).trans h.b1, fun b hbb => ?_, ⟨hf _ h.fz.1 (by omega), hf _ h.fz.2 (by omega)⟩, h.nf⟩
  rcases hbb with g | g | g | g
  · exact h.no b (.inl g)
  · exact h.no b (.inr (.inl g))
  · exact h.no b (.inr (.inr (.inl g)))
  · rcases hr.cvd b g with g | g
    · exact h.no b (.inr (.inr (.inr g)))
    · omega
end
end Go.Proofs.Ytklkglbimjajnaa.sap0
namespace Go.Proofs.Ytklkglbimjajnaa.sdl0
open Raft mem srun ssend sdown ssmall scopy srecs sapp ssame schos schosen scom sgrow sin sel stk slog sap0
variable {F : Nat → Option Obj}
structure St1 (F : Nat → Option Obj) (w : World) (M : Fz) (base d P pc bt : Nat) (mc : Array Value) (c : Cl) (us : List PV) (ns : List MV) (nv : Value) (cs : List RV) (cv : Value) (M' : Fz) (wr : World) : Prop where
  run : Run (TS F) wr M' base d P pc c us ns nv cs cv
  le : Le M M'
  bel : Below base w wr
  dom : ∀ b, M' b ≠ none → M b ≠ none ∨ base ≤ b
  b0 : wr.heap[w.heap.size]? = some (.cells mc bt (0, 0))
  no : ∀ b, Mine d P us cv b → b ≠ w.heap.size
  fz : M' w.heap.size = none
theorem isRow_set {us : List PV} {k : Nat} {x x' : PV} (hk : us[k]? = some x) (hr : rows x' = rows x) {b : Nat} (h : IsRow (us.set k x') b) : IsRow us b := by
  obtain ⟨k1, y, i, u, e1, e2, e3⟩ := h
  by_cases e : k1 = k
  · subst e
    rw [List.getElem?_set_self (List.getElem?_eq_some_iff.1 hk).1] at e1
    obtain rfl := Option.some.inj e1
    exact ⟨k1, x, i, u, hk, hr ▸ e2, e3⟩
  · rw [List.getElem?_set_ne (Ne.symm e)] at e1
    exact ⟨k1, y, i, u, e1, e2, e3⟩
theorem mine_set {d P : Nat} {us : List PV} {cv : Value} {k : Nat} {x x' : PV} (hk : us[k]? = some x) (hr : rows x' = rows x) {b : Nat} (h : Mine d P (us.set k x') cv b) : Mine d P us cv b := by
  rcases h with h | h | h | h
  · exact .inl h
  · exact .inr (.inl h)
  · exact .inr (.inr (.inl (isRow_set hk hr h)))
  · exact .inr (.inr (.inr h))
theorem mine_low {d P : Nat} {us : List PV} {cv : Value} {k : Nat} {x : PV} {t : Nat} (hk : us[k]? = some x) {b : Nat} (h : Mine d P (us.set k (downV x t)) cv b) : Mine d P us cv b := by
  rcases h with h | h | h | h
  · exact .inl h
  · exact .inr (.inl h)
  · obtain ⟨k1, y, i, u, e1, e2, e3⟩ := h
    by_cases e : k1 = k
    · subst e
      rw [List.getElem?_set_self (List.getElem?_eq_some_iff.1 hk).1] at e1
      obtain rfl := Option.some.inj e1
      have : u = .slice none 0 0 := by
        rcases i with _ | _ | _ | i <;> simp [rows, downV, lowV] at e2 <;> exact e2.symm
      subst this
      simp [Value.ownBlock] at e3
    · rw [List.getElem?_set_ne (Ne.symm e)] at e1
      exact .inr (.inr (.inl ⟨k1, y, i, u, e1, e2, e3⟩))
  · exact .inr (.inr (.inr h))
section
variable {w : World} {M : Fz} {base d P pc bt : Nat} {mc : Array Value} {c : Cl} {us : List PV} {ns : List MV} {nv : Value} {cs : List RV} {cv : Value} {M' : Fz} {wr : World}
theorem St1.begin (h : Run (TS F) w M base d P pc c us ns nv cs cv) {W : World} (hW : w.alloc (.cells mc bt) = W) : St1 F w M base d P pc bt mc c us ns nv cs cv M W := by
  have bW : Below w.heap.size w W := by rw [← hW]; exact more (Below.refl _ _) _
  exact ⟨h.below bW, Le.refl M, bW.mono (scom.Run.base_le h), fun b hb => .inl hb, by rw [← hW]; exact heap_alloc_new w _, fun b hb => by have := h.mine hb; omega, h.inn.fresh (Nat.le_refl _)⟩
theorem St1.lt (h : St1 F w M base d P pc bt mc c us ns nv cs cv M' wr) : w.heap.size < wr.heap.size := (Array.getElem?_eq_some_iff.1 h.b0).1
theorem St1.low (h : St1 F w M base d P pc bt mc c us ns nv cs cv M' wr) : base ≤ wr.heap.size := scom.Run.base_le h.run
theorem St1.below (h : St1 F w M base d P pc bt mc c us ns nv cs cv M' wr) {wx : World} (hb : Below wr.heap.size wr wx) : St1 F w M base d P pc bt mc c us ns nv cs cv M' wx :=
  ⟨h.run.below hb, h.le, h.bel.trans (hb.mono h.low), h.dom, kept hb h.b0 (Nat.le_refl _), h.no, h.fz⟩
theorem St1.sd (h : St1 F w M base d P pc bt mc c us ns nv cs cv M' wr) : SD F w M base d P pc c wr := ⟨M', us, ns, nv, cs, cv, h.le, h.bel, h.run, h.dom⟩
theorem St1.step (h : St1 F w M base d P pc bt mc c us ns nv cs cv M' wr) {c' : Cl} {w' : World} (hs : SD F wr M' base d P pc c' w') : SD F w M base d P pc c' w' := by
  obtain ⟨M2, us2, ns2, nv2, cs2, cv2, b1, b2, b3, b4⟩ := hs
  refine ⟨M2, us2, ns2, nv2, cs2, cv2, h.le.trans b1, h.bel.trans b2, b3, fun b hb => ?_⟩
  rcases b4 b hb with g | g
  · exact h.dom b g
  · exact .inr g
theorem St1.set (h : St1 F w M base d P pc bt mc c us ns nv cs cv M' wr) {g i : Nat} {v : Value} {c' : Cl} {us' : List PV} (hg : base ≤ g) (hn : g ≠ w.heap.size) (hm : ∀ b, Mine d P us' cv b → Mine d P us cv b) (hr : Run (TS F) (wr.setCell ⟨g, i, none⟩ v) M' base d P pc c' us' ns nv cs cv) : St1 F w M base d P pc bt mc c' us' ns nv cs cv M' (wr.setCell ⟨g, i, none⟩ v) :=
  ⟨hr, h.le, h.bel.setCell hg v, h.dom, (Below.heap_setCell wr ⟨g, i, none⟩ v _ (fun e => hn e.symm)).trans h.b0, fun b hb => h.no b (hm b hb), h.fz⟩
theorem St1.peer (h : St1 F w M base d P pc bt mc c us ns nv cs cv M' wr) {k j : Nat} {x : PV} {v : Value} (p' : Peer) (hk : us[k]? = some x) (hj : j < 9) (hc : peerCells { x with p := p' } = (peerCells x).set j v)
    (h1 : p'.log = x.p.log) (h2 : p'.votes = x.p.votes) (h3 : p'.next = x.p.next) (h4 : p'.mat = x.p.mat) :
    St1 F w M base d P pc bt mc { c with peers := c.peers.set k p' } (us.set k { x with p := p' }) ns nv cs cv M' (wr.setCell ⟨P, k * 9 + j, none⟩ v) :=
  h.set h.run.low.2 (h.no P (.inr (.inl rfl))) (fun b hb => mine_set hk (by rfl) hb) (Run.setScalar h.run p' hk hj hc h1 h2 h3 h4)
theorem St1.votes (h : St1 F w M base d P pc bt mc c us ns nv cs cv M' wr) {k : Nat} {x : PV} (hk : us[k]? = some x) {g n cap : Nat} (hv : x.vv = .slice (some ⟨g, 0, none⟩) n cap) (i : Nat) (a : Bool) :
    St1 F w M base d P pc bt mc { c with peers := c.peers.set k { x.p with votes := x.p.votes.set i a } } (us.set k { x with p := { x.p with votes := x.p.votes.set i a } }) ns nv cs cv M' (wr.setCell ⟨g, i, none⟩ (.bool a)) := by
  have hr : IsRow us g := ⟨k, x, 0, x.vv, hk, rfl, by rw [hv]; rfl⟩
  exact h.set (h.run.blocks_lt hr).1 (h.no g (.inr (.inr (.inl hr)))) (fun b hb => mine_set hk (by rfl) hb) (Run.setVotes h.run hk hv i a)
theorem St1.next (h : St1 F w M base d P pc bt mc c us ns nv cs cv M' wr) {k : Nat} {x : PV} (hk : us[k]? = some x) {g n cap : Nat} (hv : x.nv = .slice (some ⟨g, 0, none⟩) n cap) (i a : Nat) :
    St1 F w M base d P pc bt mc { c with peers := c.peers.set k { x.p with next := x.p.next.set i a } } (us.set k { x with p := { x.p with next := x.p.next.set i a } }) ns nv cs cv M' (wr.setCell ⟨g, i, none⟩ (.int .i64 (a : Int))) := by
  have hr : IsRow us g := ⟨k, x, 1, x.nv, hk, rfl, by rw [hv]; rfl⟩
  exact h.set (h.run.blocks_lt hr).1 (h.no g (.inr (.inr (.inl hr)))) (fun b hb => mine_set hk (by rfl) hb) (Run.setNext h.run hk hv i a)
theorem St1.mat (h : St1 F w M base d P pc bt mc c us ns nv cs cv M' wr) {k : Nat} {x : PV} (hk : us[k]? = some x) {g n cap : Nat} (hv : x.mv = .slice (some ⟨g, 0, none⟩) n cap) (i a : Nat) :
    St1 F w M base d P pc bt mc { c with peers := c.peers.set k { x.p with mat := x.p.mat.set i a } } (us.set k { x with p := { x.p with mat := x.p.mat.set i a } }) ns nv cs cv M' (wr.setCell ⟨g, i, none⟩ (.int .i64 (a : Int))) := by
  have hr : IsRow us g := ⟨k, x, 2, x.mv, hk, rfl, by rw [hv]; rfl⟩
  exact h.set (h.run.blocks_lt hr).1 (h.no g (.inr (.inr (.inl hr)))) (fun b hb => mine_set hk (by rfl) hb) (Run.setMat h.run hk hv i a)
theorem St1.down (h : St1 F w M base d P pc bt mc c us ns nv cs cv M' wr) (k t : Nat) (x : PV) (hk : us[k]? = some x) :
    Calls Try.prog 100 #[.pointer (some ⟨d, 0, none⟩), .int .i64 k, .int .i64 t] wr fun r w' => r = .returned (.tuple #[]) ∧ St1 F w M base d P pc bt mc (c.down k t) (us.set k (downV x t)) ns nv cs cv M' w' := by
  refine (down_any wr M' base d P pc c us ns nv cs cv h.run k t x hk).mono ?_
  rintro r w' ⟨rfl, h1, g⟩
  have hPn := h.no P (.inr (.inl rfl))
  have hl := h.lt
  have hP : base ≤ P := h.run.low.2
  refine ⟨rfl, h1, h.le, h.bel.trans ⟨g.os, g.tape, g.output, g.size, fun b hb => g.block b (by have := h.low; omega) (fun e => by simp only [Option.some.injEq] at e; omega)⟩, h.dom, ?_, fun b hb => h.no b (mine_low hk hb), h.fz⟩
  exact (g.block _ (by omega) (fun e => by simp only [Option.some.injEq] at e; omega)).trans h.b0
theorem St1.send (h : St1 F w M base d P pc bt mc c us ns nv cs cv M' wr) (m : Msg) (lo : Option Addr) (ln lc : Nat) (hlv : RecsM M' (.slice lo ln lc) m.log) :
    Calls Try.prog 51 #[.pointer (some ⟨d, 0, none⟩), .agg #[.int .i64 m.kind, .int .i64 m.frm, .int .i64 m.to, .int .i64 m.term, .int .i64 m.a, .int .i64 m.b, .int .i64 m.c, .bool m.ok, .slice lo ln lc]] wr fun r w' => r = .returned (.tuple #[]) ∧ SD F w M base d P pc (c.send m) w' := by
  refine (send_any wr M' base d P pc c us ns nv cs cv h.run m lo ln lc hlv).mono ?_
  rintro r w' ⟨rfl, hs⟩
  exact ⟨rfl, SD.sent h.le h.bel h.run h.dom hs⟩
end
def Seen (F : Nat → Option Obj) (w : World) (M : Fz) (base d P pc : Nat) (mc : Array Value) (c : Cl) (us : List PV) (ns : List MV) (nv : Value) (cs : List RV) (cv : Value) (k T : Nat) (us1 : List PV) (x1 : PV) (wr : World) : Prop :=
  St1 F w M base d P pc 98 mc (deliv.seen c k T) us1 ns nv cs cv M wr ∧ us1[k]? = some x1 ∧ us1.length = us.length ∧ (deliv.seen c k T).at k = x1.p
theorem seen_not {w : World} {M : Fz} {base d P pc : Nat} {mc : Array Value} {c : Cl} {us : List PV} {ns : List MV} {nv : Value} {cs : List RV} {cv : Value} {wr : World} {k T : Nat} {x : PV} (h : St1 F w M base d P pc 98 mc c us ns nv cs cv M wr) (hk : us[k]? = some x) (ht : ¬ x.p.term < T) : Seen F w M base d P pc mc c us ns nv cs cv k T us x wr := by
  have hat := (sdown.Run.at h.run hk).1
  have e : deliv.seen c k T = c := by unfold deliv.seen; rw [hat, if_neg ht]
  unfold Seen
  rw [e]
  exact ⟨h, hk, rfl, hat⟩
theorem seen_down {w : World} {M : Fz} {base d P pc : Nat} {mc : Array Value} {c : Cl} {us : List PV} {ns : List MV} {nv : Value} {cs : List RV} {cv : Value} {wr : World} {k T : Nat} {x : PV} (h : St1 F w M base d P pc 98 mc (c.down k T) (us.set k (downV x T)) ns nv cs cv M wr) (hk : us[k]? = some x) (hat : c.at k = x.p) (ht : x.p.term < T) : Seen F w M base d P pc mc c us ns nv cs cv k T (us.set k (downV x T)) (downV x T) wr := by
  have e : deliv.seen c k T = c.down k T := by unfold deliv.seen; rw [hat, if_pos ht]
  unfold Seen
  rw [e]
  exact ⟨h, got_set hk, by rw [List.length_set], (sdown.Run.at h.run (got_set hk)).1⟩
end Go.Proofs.Ytklkglbimjajnaa.sdl0
namespace Go.Proofs.Ytklkglbimjajnaa.sdl3
open Raft mem srun ssend sdown ssmall scopy srecs sapp ssame schos schosen scom sgrow sin sel stk slog sap0 sdl0
variable {F : Nat → Option Obj}
theorem kept_cell {w w' : World} {a : Addr} {v : Value} (h : Below w.heap.size w w') (hc : w.cell? a = some v) : w'.cell? a = some v := at_below h hc
theorem deliver_none (c : Cl) (m : Msg) (h : (c.at m.to).up = false) : c.deliver m = c := by unfold Cl.deliver; rw [if_pos h]
set_option maxRecDepth 20000 in
set_option maxHeartbeats 2000000 in
theorem deliver_3 (w : World) (M : Fz) (base d P pc : Nat) (c : Cl) (us : List PV) (ns : List MV) (nv : Value) (cs : List RV) (cv : Value) (h : Run (TS F) w M base d P pc c us ns nv cs cv) (m : Msg) (lo : Option Addr) (ln lc : Nat) (hlv : RecsM M (.slice lo ln lc) m.log) (x : PV) (hk : us[m.to]? = some x) (hup : x.p.up = true) (hkd : m.kind = 3)
    (happ : ∀ us1 x1 wx, Run (TS F) wx M base d P pc (deliv.seen c m.to m.term) us1 ns nv cs cv → us1[m.to]? = some x1 → ((deliv.seen c m.to m.term).at m.to) = x1.p → Calls Try.prog 103 #[.pointer (some ⟨d, 0, none⟩), .agg #[.int .i64 m.kind, .int .i64 m.frm, .int .i64 m.to, .int .i64 m.term, .int .i64 m.a, .int .i64 m.b, .int .i64 m.c, .bool m.ok, .slice lo ln lc]] wx fun r w' => r = .returned (.tuple #[]) ∧ SD F wx M base d P pc ((deliv.seen c m.to m.term).appended m) w') :
    Calls Try.prog 49 #[.pointer (some ⟨d, 0, none⟩), .agg #[.int .i64 m.kind, .int .i64 m.frm, .int .i64 m.to, .int .i64 m.term, .int .i64 m.a, .int .i64 m.b, .int .i64 m.c, .bool m.ok, .slice lo ln lc]] w fun r w' => r = .returned (.tuple #[]) ∧ SD F w M base d P pc (c.deliver m) w' := by
  have hlt : m.to < us.length := (List.getElem?_eq_some_iff.1 hk).1
  have hat := (sdown.Run.at h hk).1
  have hcap := h.cap
  unfold maxLen at hcap
  obtain ⟨W, hW⟩ : ∃ W, w.alloc (.cells #[.int .i64 m.kind, .int .i64 m.frm, .int .i64 m.to, .int .i64 m.term, .int .i64 m.a, .int .i64 m.b, .int .i64 m.c, .bool m.ok, .slice lo ln lc] 98) = W := ⟨_, rfl⟩
  have h0 := St1.begin h hW
  have c0 : W.cell? ⟨d, 0, none⟩ = some (.slice (some ⟨P, 0, none⟩) us.length pc) := cell_of h0.run.blk rfl
  have m2 : W.cell? ⟨w.heap.size, 2, none⟩ = some (.int .i64 m.to) := cell_of h0.b0 rfl
  have m3 : W.cell? ⟨w.heap.size, 3, none⟩ = some (.int .i64 m.term) := cell_of h0.b0 rfl
  obtain ⟨p0, f0⟩ := h0.run.peerCell hk (j := 0) (v := .bool x.p.up) rfl
  rw [hup, Nat.add_zero] at p0
  have p1 := (h0.run.peerCell hk (j := 1) (v := .int .i64 x.p.term) rfl).1
  have H0 := hide h0
  have HNot : Hid (¬ x.p.term < m.term → ∀ wx, St1 F w M base d P pc 98 #[.int .i64 m.kind, .int .i64 m.frm, .int .i64 m.to, .int .i64 m.term, .int .i64 m.a, .int .i64 m.b, .int .i64 m.c, .bool m.ok, .slice lo ln lc] c us ns nv cs cv M wx → ∃ us1 x1, Hid (Seen F w M base d P pc #[.int .i64 m.kind, .int .i64 m.frm, .int .i64 m.to, .int .i64 m.term, .int .i64 m.a, .int .i64 m.b, .int .i64 m.c, .bool m.ok, .slice lo ln lc] c us ns nv cs cv m.to m.term us1 x1 wx)) := fun ht wx hx => ⟨us, x, seen_not hx hk ht⟩
  have HDn : Hid (x.p.term < m.term → ∀ wx, St1 F w M base d P pc 98 #[.int .i64 m.kind, .int .i64 m.frm, .int .i64 m.to, .int .i64 m.term, .int .i64 m.a, .int .i64 m.b, .int .i64 m.c, .bool m.ok, .slice lo ln lc] c us ns nv cs cv M wx → Calls Try.prog 100 #[.pointer (some ⟨d, 0, none⟩), .int .i64 m.to, .int .i64 m.term] wx fun r w' => r = .returned (.tuple #[]) ∧ ∃ us1 x1, Hid (Seen F w M base d P pc #[.int .i64 m.kind, .int .i64 m.frm, .int .i64 m.to, .int .i64 m.term, .int .i64 m.a, .int .i64 m.b, .int .i64 m.c, .bool m.ok, .slice lo ln lc] c us ns nv cs cv m.to m.term us1 x1 w')) := fun ht wx hx => (hx.down m.to m.term x hk).mono (by
    rintro r w' ⟨rfl, hh⟩
    exact ⟨rfl, _, _, seen_down hh hk hat ht⟩)
  have hkI : (m.to : Int) < us.length := by omega
  have HAp : Hid (∀ us1 x1 wx, Seen F w M base d P pc #[.int .i64 m.kind, .int .i64 m.frm, .int .i64 m.to, .int .i64 m.term, .int .i64 m.a, .int .i64 m.b, .int .i64 m.c, .bool m.ok, .slice lo ln lc] c us ns nv cs cv m.to m.term us1 x1 wx → Calls Try.prog 103 #[.pointer (some ⟨d, 0, none⟩), .agg #[.int .i64 m.kind, .int .i64 m.frm, .int .i64 m.to, .int .i64 m.term, .int .i64 m.a, .int .i64 m.b, .int .i64 m.c, .bool m.ok, .slice lo ln lc]] wx fun r w' => r = .returned (.tuple #[]) ∧ SD F w M base d P pc (c.deliver m) w') := fun us1 x1 wx hx => by
    obtain ⟨hs, hk1, hl1, ha1⟩ := hx
    rw [deliv.deliver_3 c m (by rw [hat]; exact hup) hkd]
    refine (happ us1 x1 wx hs.run hk1 ha1).mono ?_
    rintro r w' ⟨rfl, hsd⟩
    exact ⟨rfl, hs.step hsd⟩
  have k1b : ((m.kind : Int) == 1) = false := by rw [hkd]; decide
  have k2b : ((m.kind : Int) == 2) = false := by rw [hkd]; decide
  have k3b : ((m.kind : Int) == 3) = true := by rw [hkd]; decide
  obtain ⟨U, eU⟩ : ∃ U, us.length = U := ⟨_, rfl⟩
  rw [eU] at c0 hlt hcap hkI
  clear h hat hk f0 h0 eU hkd
  go_enter Try.func49, Try.ntmps49
  go_wp2
  (try rw [hW])
  clear hW
  go_quiet (fail)
  obtain ⟨W1, hW1, bW1, sW1⟩ := fold_dn W nq
  (try rw [hW1])
  have H1 := hide (H0.out.below bW1)
  have p0 := (kept_cell bW1 p0)
  have p1 := (kept_cell bW1 p1)
  have m3 := (kept_cell bW1 m3)
  have m2 := (kept_cell bW1 m2)
  clear hW1 bW1 H0 c0
  go_wp2
  go_quiet (fail)
  obtain ⟨W2, hW2, bW2, sW2⟩ := fold_dn W1 nq
  (try rw [hW2])
  have H2 := hide (H1.out.below bW2)
  have m3 := (kept_cell bW2 m3)
  have m2 := (kept_cell bW2 m2)
  clear hW2 bW2 H1 p0 p1
  go_upto_if 27 with fail
  go_cut [] from 27 to 33 (fun wx => ∃ us1 x1, Hid (Seen F w M base d P pc #[.int .i64 m.kind, .int .i64 m.frm, .int .i64 m.to, .int .i64 m.term, .int .i64 m.a, .int .i64 m.b, .int .i64 m.c, .bool m.ok, .slice lo ln lc] c us ns nv cs cv m.to m.term us1 x1 wx))
  case first =>
    by_cases ht : x.p.term < m.term
    · have htI : (x.p.term : Int) < m.term := by omega
      have HD := hide (HDn.out ht _ H2.out)
      clear HDn HNot
      go_wp2_with (go_at_call 100; refine HD.out.mono ?_; rintro rr w3 ⟨rfl, us1, x1, H3⟩)
      go_meet
      exact ⟨us1, x1, H3⟩
    · have htI : ¬ (x.p.term : Int) < m.term := by omega
      have HD := HNot.out ht _ H2.out
      clear HDn HNot
      go_wp2_with fail
      go_meet
      exact HD
  case rest =>
    obtain ⟨us1, x1, HSn⟩ := hcut
    clear HDn HNot H2 m2 m3
    have H3 := hide HSn.out.1
    have hk1 := HSn.out.2.1
    have m0 : wc.cell? ⟨w.heap.size, 0, none⟩ = some (.int .i64 m.kind) := cell_of H3.out.b0 rfl
    have m1 : wc.cell? ⟨w.heap.size, 1, none⟩ = some (.int .i64 m.frm) := cell_of H3.out.b0 rfl
    have m2 : wc.cell? ⟨w.heap.size, 2, none⟩ = some (.int .i64 m.to) := cell_of H3.out.b0 rfl
    have m3 : wc.cell? ⟨w.heap.size, 3, none⟩ = some (.int .i64 m.term) := cell_of H3.out.b0 rfl
    have m4 : wc.cell? ⟨w.heap.size, 4, none⟩ = some (.int .i64 m.a) := cell_of H3.out.b0 rfl
    have m5 : wc.cell? ⟨w.heap.size, 5, none⟩ = some (.int .i64 m.b) := cell_of H3.out.b0 rfl
    have m6 : wc.cell? ⟨w.heap.size, 6, none⟩ = some (.int .i64 m.c) := cell_of H3.out.b0 rfl
    have m7 : wc.cell? ⟨w.heap.size, 7, none⟩ = some (.bool m.ok) := cell_of H3.out.b0 rfl
    have m8 : wc.cell? ⟨w.heap.size, 8, none⟩ = some (.slice lo ln lc) := cell_of H3.out.b0 rfl
    have HZ := hide (HAp.out us1 x1 wc HSn.out)
    clear HAp HSn H3 hk1
    go_wp2_with (go_at_call 103; refine HZ.out.mono ?_; rintro rr w8 ⟨rfl, hsd⟩)
    go_end0
    exact ⟨rfl, hsd⟩
set_option maxRecDepth 20000 in
set_option maxHeartbeats 2000000 in
theorem deliver_off (w : World) (M : Fz) (base d P pc : Nat) (c : Cl) (us : List PV) (ns : List MV) (nv : Value) (cs : List RV) (cv : Value) (h : Run (TS F) w M base d P pc c us ns nv cs cv) (m : Msg) (lo : Option Addr) (ln lc : Nat) (hlv : RecsM M (.slice lo ln lc) m.log) (x : PV) (hk : us[m.to]? = some x) (hup : x.p.up = false) :
    Calls Try.prog 49 #[.pointer (some ⟨d, 0, none⟩), .agg #[.int .i64 m.kind, .int .i64 m.frm, .int .i64 m.to, .int .i64 m.term, .int .i64 m.a, .int .i64 m.b, .int .i64 m.c, .bool m.ok, .slice lo ln lc]] w fun r w' => r = .returned (.tuple #[]) ∧ SD F w M base d P pc (c.deliver m) w' := by
  have hlt : m.to < us.length := (List.getElem?_eq_some_iff.1 hk).1
  have hat := (sdown.Run.at h hk).1
  have hcap := h.cap
  unfold maxLen at hcap
  obtain ⟨W, hW⟩ : ∃ W, w.alloc (.cells #[.int .i64 m.kind, .int .i64 m.frm, .int .i64 m.to, .int .i64 m.term, .int .i64 m.a, .int .i64 m.b, .int .i64 m.c, .bool m.ok, .slice lo ln lc] 98) = W := ⟨_, rfl⟩
  have h0 := St1.begin h hW
  have c0 : W.cell? ⟨d, 0, none⟩ = some (.slice (some ⟨P, 0, none⟩) us.length pc) := cell_of h0.run.blk rfl
  have m2 : W.cell? ⟨w.heap.size, 2, none⟩ = some (.int .i64 m.to) := cell_of h0.b0 rfl
  obtain ⟨p0, f0⟩ := h0.run.peerCell hk (j := 0) (v := .bool x.p.up) rfl
  rw [hup, Nat.add_zero] at p0
  have HE : Hid (∀ wx, Below W.heap.size W wx → SD F w M base d P pc (c.deliver m) wx) := fun wx hx => by
    rw [deliver_none c m (by rw [hat]; exact hup)]
    exact (h0.below hx).sd
  have hkI : (m.to : Int) < us.length := by omega
  obtain ⟨U, eU⟩ : ∃ U, us.length = U := ⟨_, rfl⟩
  rw [eU] at c0 hlt hcap hkI
  clear h hat hk f0 h0 eU
  go_enter Try.func49, Try.ntmps49
  go_wp2
  (try rw [hW])
  clear hW
  go_quiet (fail)
  obtain ⟨W1, hW1, bW1, sW1⟩ := fold_dn W nq
  (try rw [hW1])
  have HF := hide (HE.out W1 bW1)
  have p0 := (kept_cell bW1 p0)
  clear hW1 bW1 c0 HE m2
  go_wp2
  refine bodyPost_ret (v := .tuple #[]) (by simp [results, Try.results49]) rfl ⟨rfl, HF.out⟩
end Go.Proofs.Ytklkglbimjajnaa.sdl3

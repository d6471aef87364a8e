/- A script is read. -/
import Derived.Test.YtdhachmelgdknaaGreatDoorFin
namespace Go.Proofs.YtdhachmelgdknaaGreatDoor.rdr
open Go.ChangeShapes Go.WideShapes Go.ChangeAt Go.RowKit
open Go.Proofs.YtdhachmelgdknaaGreatDoor.bas Go.Proofs.YtdhachmelgdknaaGreatDoor.tak
set_option linter.unusedVariables false
structure Cm where
  ak : Int
  an : Int
  nt : Bool
  nm : ByteArray
def Cm.cells (c : Cm) : Array Value := sedA c.ak c.an c.nt c.nm
/-- A command is read from a place on. -/
def CmAt (T : ByteArray) (p : Nat) (cm : Cm) (p' : Nat) : Prop :=
  ∃ f R k1 k4 c j, tcGo T f (ov sA T p) = some R ∧ R < T.size ∧
    (∀ (d : Nat) (q : Q) (W : World), q.T = T → q.pl = R → RB W d q → Calls Tryz.prog 86 #[.pointer (some ⟨d, 0, none⟩)] W fun e w' => e = .returned (.agg #[.int .i64 cm.ak, .int .i64 cm.an, .int .i64 0, .int .i64 0, .int .i64 0, .string ⟨#[]⟩, .slice none 0 0]) ∧ RB w' d { q with pl := k1 } ∧ W.grownBy w' (some d)) ∧
    Ahead T cm.ak k1 cm.nt k4 ∧ (∃ hlt : k4 < T.size, (T[k4]'hlt).toNat = c) ∧ j < 12 ∧ (pn.data.toList.getD j 0).toNat = c ∧
    (∀ W, (convert 5 21 (.int .u8 (c : Nat))).run Tryz.prog W = .ok (.int .i32 (c : Nat)) W ∧ (convert 21 9 (.int .i32 (c : Nat))).run Tryz.prog W = .ok (.string cm.nm) W) ∧
    (ov sB T (k4 + 1) = T.size ∨ seesP T sE (ov sB T (k4 + 1)) = true) ∧ p' = ov sB T (k4 + 1)
/-- The commands from a place on. -/
inductive Scr (T : ByteArray) : Nat → List Cm → Prop
  | fin {p f : Nat} : tcGo T f (ov sA T p) = some T.size → Scr T p []
  | cons {p : Nat} {cm : Cm} {p' : Nat} {cs : List Cm} : CmAt T p cm p' → Scr T p' cs → Scr T p (cm :: cs)
/-- A script being read. -/
structure PSt (base : Nat) (w0 w : World) (d : Nat) (T : ByteArray) (ere : Bool) (p mT m : Nat) (cs : List Cm) (bg nm : Int) (ls : Value) : Prop where
  rb : RB w d ⟨T, ere, p, bg, nm, .map (some mT), ls, .slice none 0 0, .map (some m), .slice none 0 0⟩
  own : w.ownsRow base 60 26 ls cs.length (cs.flatMap fun c => c.cells.toList)
  tk : TKo w mT
  lb : LB w m
  bd : base ≤ d
  bm : base ≤ m
  bel : Below base w0 w
  ple : p ≤ T.size
  bsz : base ≤ w.heap.size
theorem PSt.grow {base : Nat} {w0 w w' : World} {d : Nat} {T : ByteArray} {ere : Bool} {p p' mT m : Nat} {cs : List Cm} {bg nm bg' : Int} {ls : Value} (h : PSt base w0 w d T ere p mT m cs bg nm ls) (hr : RB w' d ⟨T, ere, p', bg', nm, .map (some mT), ls, .slice none 0 0, .map (some m), .slice none 0 0⟩) (g : w.grownBy w' (some d)) (hp : p' ≤ T.size) : PSt base w0 w' d T ere p' mT m cs bg' nm ls :=
  ⟨hr, row_kept h.rb h.own g, h.tk.keep (g.block _ h.tk.lt (by simpa using tk_ne h.tk h.rb)), h.lb.keep (g.block _ h.lb.lt (by simpa using lb_ne h.lb h.rb)), h.bd, h.bm, h.bel.trans (grown_bel g h.bd h.bsz), hp, Nat.le_trans h.bsz g.size⟩
theorem own_obj {base : Nat} {w : World} {v : Value} {n m : Nat} {ys : List Value} (ho : w.ownsRow base 60 26 v n ys) {es : _} {ck : _} (hm : w.heap[m]? = some (.map es ck)) : some m ≠ v.ownBlock := by
  intro e
  rcases ho.2 with ⟨hv, _⟩ | ⟨g', cap', cur, hv, _, hg, _⟩
  · rw [hv] at e; cases e
  · rw [hv] at e
    have : m = g' := by simpa [Value.ownBlock] using e
    subst this
    have := hm.symm.trans hg
    cases this
theorem PSt.more {base : Nat} {w0 w w' : World} {d : Nat} {T : ByteArray} {ere : Bool} {p mT m : Nat} {cs : List Cm} {bg nm nm' : Int} {ls : Value} (h : PSt base w0 w d T ere p mT m cs bg nm ls) (cm : Cm) (p' : Nat) (hp : p' ≤ T.size)
    (he : WhE base w d ⟨T, ere, p, bg, nm', .map (some mT), ls, .slice none 0 0, .map (some m), .slice none 0 0⟩ cs.length ((cs.flatMap fun c => c.cells.toList) ++ cm.cells.toList) p' w') : ∃ ls', PSt base w0 w' d T ere p' mT m (cs ++ [cm]) bg nm' ls' := by
  obtain ⟨g, cap, o, r, t⟩ := he
  have hd := h.rb.lt
  refine ⟨_, r, by simpa using o, ?_, ?_, h.bd, h.bm, ?_, hp, Nat.le_trans h.bsz t.size⟩
  · obtain ⟨n, D, ⟨es, clock, hb, r2⟩, hD⟩ := h.tk
    exact TKo.keep ⟨n, D, ⟨es, clock, hb, r2⟩, hD⟩ (t.block _ h.tk.lt (tk_ne h.tk h.rb) (own_obj h.own hb))
  · obtain ⟨n, D, hn, es, clock, hb, r2⟩ := h.lb
    exact LB.keep ⟨n, D, hn, es, clock, hb, r2⟩ (t.block _ h.lb.lt (lb_ne h.lb h.rb) (own_obj h.own hb))
  · have bb := h.bel
    have hbs := h.bsz
    have hbd := h.bd
    exact ⟨t.os.trans bb.os, t.tape.trans bb.tape, t.output.trans bb.output, Nat.le_trans bb.size t.size, fun k hk => (t.block k (by omega) (by omega) (fun e => by have := (World.ownsRow.lt h.own k e.symm).1; omega)).trans (bb.block k hk)⟩
set_option maxHeartbeats 3200000 in
set_option maxRecDepth 20000 in
theorem script_any (base : Nat) (w0 w : World) (d : Nat) (T : ByteArray) (ere : Bool) (p mT m : Nat) (cs rest : List Cm) (bg nm : Int) (ls : Value) (h : PSt base w0 w d T ere p mT m cs bg nm ls) (hT : T.size ≤ 100000) (hs : Scr T p rest) (hlen : cs.length + rest.length < 60) :
    Calls Tryz.prog 34 #[.pointer (some ⟨d, 0, none⟩)] w fun e w' => ∃ v, e = .returned v ∧ w'.ownsRow base 60 26 v (cs ++ rest).length ((cs ++ rest).flatMap fun c => c.cells.toList) ∧ Below base w0 w' := by
  have HP : Hid (∃ bg nm ls, PSt base w0 w d T ere p mT m cs bg nm ls) := ⟨bg, nm, ls, h⟩
  have HS := hide hs
  clear h hs
  go_enter Tryz.func34, Tryz.ntmps34
  go_wp2
  go_loopg [4] rest.length (fun gk s wr => ∃ (p : Nat) (ds rs : List Cm), gk = rs.length ∧ ds ++ rs = cs ++ rest ∧ Hid ((∃ bg nm ls, PSt base w0 wr d T ere p mT m ds bg nm ls) ∧ Scr T p rs))
  case atStart => exact ⟨p, cs, rest, rfl, rfl, HP.out, HS.out⟩
  case round =>
    obtain ⟨p, ds, rs, hgk, hds, HI⟩ := hrel
    clear HP HS
    obtain ⟨bg, nm, ls, hP⟩ := HI.out.1
    have hS := HI.out.2
    clear HI
    cases hS with
    | @fin p f hf =>
      have HC := toCommand_any (Mv.refl hP.rb) hP.ple hT f T.size hf
      dsimp only at HC
      rw [decide_eq_true rfl] at HC
      have HC := hide HC
      have HPP := hide hP
      clear hP hf
      go_wp2_with fail
      refine HC.out.mono ?_
      rintro e w1 ⟨rfl, m1⟩
      have HP1 := hide (HPP.out.grow m1.rb m1.gr (Nat.le_refl _))
      clear HC HPP m1
      obtain ⟨lo, lc, rfl⟩ : ∃ lo lc, ls = .slice lo ds.length lc := by
        obtain ⟨h1, ⟨e, hx⟩ | ⟨g, cap, cur, e, _⟩⟩ := HP1.out.own
        · exact ⟨none, 0, by rw [e, hx]⟩
        · exact ⟨_, _, e⟩
      have HFi := hide (finish_any HP1.out.rb HP1.out.lb)
      go_wp2_with fail
      refine HFi.out.mono ?_
      rintro e w2 ⟨rfl, r2, g2⟩
      have c6 : w2.cell? ⟨d, 6, none⟩ = some (.slice lo ds.length lc) := cell_of r2 rfl
      have HX : Hid (∃ v, Ending.returned (Value.slice lo ds.length lc) = .returned v ∧ w2.ownsRow base 60 26 v (cs ++ rest).length ((cs ++ rest).flatMap fun c => c.cells.toList) ∧ Below base w0 w2) := by
        refine ⟨_, rfl, ?_, ?_⟩
        · rw [← hds, List.append_nil]
          refine HP1.out.own.kept g2 ?_
          obtain ⟨n, D, hn, es, clock, hb, _⟩ := HP1.out.lb
          exact .inr (fun e => own_obj HP1.out.own hb e.symm)
        · have bb := HP1.out.bel
          have hbm := HP1.out.bm
          have hbs := HP1.out.bsz
          exact ⟨g2.os.trans bb.os, g2.tape.trans bb.tape, g2.output.trans bb.output, Nat.le_trans bb.size g2.size, fun k hk => (g2.block k (by omega) (by simp; omega)).trans (bb.block k hk)⟩
      clear HFi HP1 r2 g2
      go_wp2
      go_ret
      exact HX.out
    | @cons p cm p' rs hc hr =>
      obtain ⟨f, R, k1, k4, c, j, h1, h2, h3, h4, ⟨hlt, h5⟩, h6, h7, h8, h9, rfl⟩ := hc
      have hlen2 : ds.length < 60 := by
        have := congrArg List.length hds
        simp only [List.length_append, List.length_cons] at this
        omega
      have HC := toCommand_any (Mv.refl hP.rb) hP.ple hT f R h1
      dsimp only at HC
      rw [decide_eq_false (show ¬ R = T.size by omega)] at HC
      have HC : Hid (Calls Tryz.prog 48 #[.pointer (some ⟨d, 0, none⟩)] wr fun e w1 => e = .returned (.bool true) ∧ Hid (Calls Tryz.prog 49 #[.pointer (some ⟨d, 0, none⟩)] w1 fun e w2 => e = .returned (.agg (sedA cm.ak cm.an cm.nt ⟨#[]⟩)) ∧ (storeCells ⟨w2.heap.size, 0, none⟩ (sedA cm.ak cm.an cm.nt ⟨#[]⟩).toList).run Tryz.prog (w2.alloc (.cells #[.int .i64 0, .int .i64 0, .int .i64 0, .int .i64 0, .int .i64 0, .string ⟨#[]⟩, .slice none 0 0, .int .i64 0, .int .i64 0, .int .i64 0, .int .i64 0, .int .i64 0, .string ⟨#[]⟩, .slice none 0 0, .bool false, .string ⟨#[]⟩, .string ⟨#[]⟩, .int .i64 0, .int .i64 0, .int .i64 0, .string ⟨#[]⟩, .slice none 0 0, .bool false, .bool false, .int .i64 0, .int .i64 0] 60)) = .ok () ((w2.alloc (.cells #[.int .i64 0, .int .i64 0, .int .i64 0, .int .i64 0, .int .i64 0, .string ⟨#[]⟩, .slice none 0 0, .int .i64 0, .int .i64 0, .int .i64 0, .int .i64 0, .int .i64 0, .string ⟨#[]⟩, .slice none 0 0, .bool false, .string ⟨#[]⟩, .string ⟨#[]⟩, .int .i64 0, .int .i64 0, .int .i64 0, .string ⟨#[]⟩, .slice none 0 0, .bool false, .bool false, .int .i64 0, .int .i64 0] 60)).setRow w2.heap.size (sedA cm.ak cm.an cm.nt ⟨#[]⟩)) ∧ ∃ W3, Hid ((w2.alloc (.cells #[.int .i64 0, .int .i64 0, .int .i64 0, .int .i64 0, .int .i64 0, .string ⟨#[]⟩, .slice none 0 0, .int .i64 0, .int .i64 0, .int .i64 0, .int .i64 0, .int .i64 0, .string ⟨#[]⟩, .slice none 0 0, .bool false, .string ⟨#[]⟩, .string ⟨#[]⟩, .int .i64 0, .int .i64 0, .int .i64 0, .string ⟨#[]⟩, .slice none 0 0, .bool false, .bool false, .int .i64 0, .int .i64 0] 60)).setRow w2.heap.size (sedA cm.ak cm.an cm.nt ⟨#[]⟩) = W3) ∧ Hid (W3.heap[w2.heap.size]? = some (.cells (sedA cm.ak cm.an cm.nt ⟨#[]⟩) 60 (0, 0))) ∧ Hid (Calls Tryz.prog 50 #[.pointer (some ⟨d, 0, none⟩), .agg (sedA cm.ak cm.an cm.nt ⟨#[]⟩)] W3 fun e w4 => e = .returned (.tuple #[]) ∧ Hid (∃ bg nm ls, PSt base w0 w4 d T ere (ov sB T (k4 + 1)) mT m (ds ++ [cm]) bg nm ls)))) := by
        refine HC.mono ?_
        rintro e w1 ⟨rfl, m1⟩
        have P1 := hP.grow m1.rb m1.gr (Nat.le_of_lt h2)
        refine ⟨rfl, ?_⟩
        refine (head_any P1.rb (Nat.le_of_lt h2) hT cm.ak cm.an k1 cm.nt k4 (fun W hW => h3 d _ W rfl rfl hW) h4).mono ?_
        rintro e w2 ⟨rfl, r2, g2⟩
        have P2 := P1.grow r2 g2 (Nat.le_of_lt hlt)
        have xa : (w2.alloc (.cells #[.int .i64 0, .int .i64 0, .int .i64 0, .int .i64 0, .int .i64 0, .string ⟨#[]⟩, .slice none 0 0, .int .i64 0, .int .i64 0, .int .i64 0, .int .i64 0, .int .i64 0, .string ⟨#[]⟩, .slice none 0 0, .bool false, .string ⟨#[]⟩, .string ⟨#[]⟩, .int .i64 0, .int .i64 0, .int .i64 0, .string ⟨#[]⟩, .slice none 0 0, .bool false, .bool false, .int .i64 0, .int .i64 0] 60)).heap[w2.heap.size]? = some (.cells #[.int .i64 0, .int .i64 0, .int .i64 0, .int .i64 0, .int .i64 0, .string ⟨#[]⟩, .slice none 0 0, .int .i64 0, .int .i64 0, .int .i64 0, .int .i64 0, .int .i64 0, .string ⟨#[]⟩, .slice none 0 0, .bool false, .string ⟨#[]⟩, .string ⟨#[]⟩, .int .i64 0, .int .i64 0, .int .i64 0, .string ⟨#[]⟩, .slice none 0 0, .bool false, .bool false, .int .i64 0, .int .i64 0] 60 (0, 0)) := heap_alloc_new w2 _
        have ba : Below w2.heap.size w2 (w2.alloc (.cells #[.int .i64 0, .int .i64 0, .int .i64 0, .int .i64 0, .int .i64 0, .string ⟨#[]⟩, .slice none 0 0, .int .i64 0, .int .i64 0, .int .i64 0, .int .i64 0, .int .i64 0, .string ⟨#[]⟩, .slice none 0 0, .bool false, .string ⟨#[]⟩, .string ⟨#[]⟩, .int .i64 0, .int .i64 0, .int .i64 0, .string ⟨#[]⟩, .slice none 0 0, .bool false, .bool false, .int .i64 0, .int .i64 0] 60)) := more (Below.refl _ _) _
        refine ⟨rfl, run_storeCells_row (P := Tryz.prog) _ _ 60 _ _ xa rfl (one_sed _ _ _ _), _, rfl, setRow_heap _ _ _ _ _ _ xa, ?_⟩
        have o3 : ∀ k, k ≠ w2.heap.size → ((w2.alloc (.cells #[.int .i64 0, .int .i64 0, .int .i64 0, .int .i64 0, .int .i64 0, .string ⟨#[]⟩, .slice none 0 0, .int .i64 0, .int .i64 0, .int .i64 0, .int .i64 0, .int .i64 0, .string ⟨#[]⟩, .slice none 0 0, .bool false, .string ⟨#[]⟩, .string ⟨#[]⟩, .int .i64 0, .int .i64 0, .int .i64 0, .string ⟨#[]⟩, .slice none 0 0, .bool false, .bool false, .int .i64 0, .int .i64 0] 60)).setRow w2.heap.size (sedA cm.ak cm.an cm.nt ⟨#[]⟩)).heap[k]? = (w2.alloc (.cells #[.int .i64 0, .int .i64 0, .int .i64 0, .int .i64 0, .int .i64 0, .string ⟨#[]⟩, .slice none 0 0, .int .i64 0, .int .i64 0, .int .i64 0, .int .i64 0, .int .i64 0, .string ⟨#[]⟩, .slice none 0 0, .bool false, .string ⟨#[]⟩, .string ⟨#[]⟩, .int .i64 0, .int .i64 0, .int .i64 0, .string ⟨#[]⟩, .slice none 0 0, .bool false, .bool false, .int .i64 0, .int .i64 0] 60)).heap[k]? := fun k hk => setRow_other _ _ _ _ hk
        have g3 : w2.grownBy ((w2.alloc (.cells #[.int .i64 0, .int .i64 0, .int .i64 0, .int .i64 0, .int .i64 0, .string ⟨#[]⟩, .slice none 0 0, .int .i64 0, .int .i64 0, .int .i64 0, .int .i64 0, .int .i64 0, .string ⟨#[]⟩, .slice none 0 0, .bool false, .string ⟨#[]⟩, .string ⟨#[]⟩, .int .i64 0, .int .i64 0, .int .i64 0, .string ⟨#[]⟩, .slice none 0 0, .bool false, .bool false, .int .i64 0, .int .i64 0] 60)).setRow w2.heap.size (sedA cm.ak cm.an cm.nt ⟨#[]⟩)) (some d) := ⟨ba.os, ba.tape, ba.output, by simp [World.setRow], fun k hk hn => (o3 k (by omega)).trans (ba.block k hk)⟩
        have P3 := P2.grow (P2.rb.keep ((o3 d (by have := P2.rb.lt; omega)).trans (ba.block d P2.rb.lt))) g3 (Nat.le_of_lt hlt)
        refine (command_any base P3.rb hlt hT ds.length _ P3.own P3.bsz hlen2 cm.ak cm.an cm.nt cm.nm c j h6 h7 h5 h8 mT rfl P3.tk h9).mono ?_
        rintro e w4 ⟨rfl, he⟩
        obtain ⟨ls', P4⟩ := P3.more cm _ (ov_le sB T (k4 + 1) hlt) he
        exact ⟨rfl, _, _, ls', P4⟩
      have HR := hide hr
      clear hP h1 h2 h3 h4 h5 h6 h7 h8 h9 hr
      go_wp2_with fail
      refine HC.out.mono ?_
      rintro e w1 ⟨rfl, H1⟩
      clear HC
      go_wp2_with fail
      refine H1.out.mono ?_
      rintro e w2 ⟨rfl, hst, W3, hW3, HX, H2⟩
      clear H1
      have hW3' := hW3.out
      go_wp2_with (first
        | ((try rw [hW3']); refine wpList_load_row rfl _ _ rfl w2.heap.size rfl 60 _ (0, 0) _ HX.out Tryz.underlying60 rfl (size60 _ _ _ _) ?_)
        | (go_at_call 50; (try rw [hW3']); refine H2.out.mono ?_; rintro e w4 ⟨rfl, HQ⟩))
      go_roundg rs.length
      case rel => exact ⟨_, ds ++ [cm], rs, rfl, by rw [← hds]; simp, HQ.out, HR.out⟩
      case measure => rw [hgk]; simp
end Go.Proofs.YtdhachmelgdknaaGreatDoor.rdr

import Derived.Test.YtcfdmbkiinjmaaaGreatZ10
import Derived.WalkMore
import Derived.Deep.Cut
import Derived.Deep.QuietTactic
import Derived.BigQuiet
import Derived.Deep.RegionLaw
import Derived.Deep.RegionHeldLaw
set_option linter.unusedVariables false
open Go.ChangeShapes Go.WideShapes Go.ChangeAt Go.RowKit
namespace Go.Proofs.YtcfdmbkiinjmaaaGreat.sapd
open Raft mem srun ssend sdown ssmall scopy srecs sapp ssame schos schosen scom sgrow sin sel stk slog sap0
variable {F:Nat→Option Obj}
set_option maxRecDepth 20000 in
set_option maxHeartbeats 2000000 in
theorem appended_old (w:World) (M:Fz) (base d P pc:Nat) (c:Cl) (us:List PV) (ns:List MV) (nv:Value) (cs:List RV) (cv:Value) (h:Run (TS F) w M base d P pc c us ns nv cs cv) (m:Msg) (lo:Option Addr) (ln lc:Nat) (hlv:RecsM M (.slice lo ln lc) m.log) (x:PV) (hk:us[m.to]?=some x) (ht:m.term<x.p.term) :
  Calls Tryz.prog 58 #[.pointer (some ⟨d,0,none⟩),.agg #[.int .i64 m.kind,.int .i64 m.frm,.int .i64 m.to,.int .i64 m.term,.int .i64 m.a,.int .i64 m.b,.int .i64 m.c,.bool m.ok,.slice lo ln lc]] w fun r w'=>r=.returned (.tuple #[])∧SD F w M base d P pc (c.appended m) w':=by
 have hlt:m.to<us.length:=(List.getElem?_eq_some_iff.1 hk).1
 have hat:=(sdown.Run.at h hk).1
 have hcap:=h.cap
 unfold maxLen at hcap
 have hbs:=scom.Run.base_le h
 obtain ⟨W,hW⟩:∃ W,w.alloc (.cells #[.int .i64 m.kind,.int .i64 m.frm,.int .i64 m.to,.int .i64 m.term,.int .i64 m.a,.int .i64 m.b,.int .i64 m.c,.bool m.ok,.slice lo ln lc] 69)=W:=⟨_,rfl⟩
 have bW:Below w.heap.size w W:=by rw [←hW];exact more (Below.refl _ _) _
 have sW:W.heap.size=w.heap.size+1:=by rw [←hW];simp [World.size_alloc]
 have hm:W.heap[w.heap.size]?=some (.cells #[.int .i64 m.kind,.int .i64 m.frm,.int .i64 m.to,.int .i64 m.term,.int .i64 m.a,.int .i64 m.b,.int .i64 m.c,.bool m.ok,.slice lo ln lc] 69 (0,0)):=by rw [←hW];exact heap_alloc_new w _
 have hR:=h.below bW
 have c0:W.cell? ⟨d,0,none⟩=some (.slice (some ⟨P,0,none⟩) us.length pc):=cell_of hR.blk rfl
 have m2:W.cell? ⟨w.heap.size,2,none⟩=some (.int .i64 m.to):=cell_of hm rfl
 have HS:Hid (∀ wx,Below W.heap.size W wx→wx.cell? ⟨P,m.to*9+1,none⟩=some (.int .i64 x.p.term)∧wx.cell? ⟨w.heap.size,1,none⟩=some (.int .i64 m.frm)∧wx.cell? ⟨w.heap.size,2,none⟩=some (.int .i64 m.to)∧wx.cell? ⟨w.heap.size,3,none⟩=some (.int .i64 m.term)):=fun wx hx=>by
  have q:=kept hx hm (Nat.le_refl _)
  exact ⟨((hR.below hx).peerCell hk (j:=1) (v:=.int .i64 x.p.term) rfl).1,cell_of q rfl,cell_of q rfl,cell_of q rfl⟩
 have HSt:Hid (∀ W1 W2,Below W.heap.size W W1→W1.heap.size=W.heap.size→(W1.alloc (.cells #[.int .i64 4,.int .i64 m.to,.int .i64 m.frm,.int .i64 x.p.term,.int .i64 0,.int .i64 0,.int .i64 0,.bool false,.slice none 0 0] 69)).drew=W2→St2 F w M base d P pc #[.int .i64 m.kind,.int .i64 m.frm,.int .i64 m.to,.int .i64 m.term,.int .i64 m.a,.int .i64 m.b,.int .i64 m.c,.bool m.ok,.slice lo ln lc] #[.int .i64 4,.int .i64 m.to,.int .i64 m.frm,.int .i64 x.p.term,.int .i64 0,.int .i64 0,.int .i64 0,.bool false,.slice none 0 0] c us ns nv cs cv M W2):=fun W1 W2 hb1 hs1 e=>by
  have hb2:Below W.heap.size W W2:=by rw [←e];exact (more hb1 _).drew
  refine ⟨hR.below hb2,Le.refl M,(bW.trans (hb2.mono bW.size)).mono hbs,fun b hb=>.inl hb,kept hb2 hm (Nat.le_refl _),?_,fun b hb=>.inl (h.mine hb),⟨h.inn.fresh (Nat.le_refl _),h.inn.fresh (by omega)⟩,fun b o e=>h.farL e⟩
  rw [←e]
  show (W1.alloc _).heap[w.heap.size+1]?=_
  exact new_at (by omega)
 have HSend:Hid (∀ wx,St2 F w M base d P pc #[.int .i64 m.kind,.int .i64 m.frm,.int .i64 m.to,.int .i64 m.term,.int .i64 m.a,.int .i64 m.b,.int .i64 m.c,.bool m.ok,.slice lo ln lc] #[.int .i64 4,.int .i64 m.to,.int .i64 m.frm,.int .i64 x.p.term,.int .i64 0,.int .i64 0,.int .i64 0,.bool false,.slice none 0 0] c us ns nv cs cv M wx→Calls Tryz.prog 38 #[.pointer (some ⟨d,0,none⟩),.agg #[.int .i64 4,.int .i64 m.to,.int .i64 m.frm,.int .i64 x.p.term,.int .i64 0,.int .i64 0,.int .i64 0,.bool false,.slice none 0 0]] wx fun r w'=>r=.returned (.tuple #[])∧SD F w M base d P pc (c.appended m) w'):=fun wx hx=>by
  have e:c.appended m=c.send ⟨4,m.to,m.frm,x.p.term,0,0,0,false,[]⟩:=by
   unfold Cl.appended
   dsimp only
   rw [hat,if_pos ht]
  rw [e]
  exact hx.send ⟨4,m.to,m.frm,x.p.term,0,0,0,false,[]⟩ none 0 0 (RecsM.nil M)
 have hkI:(m.to:Int)<us.length:=by omega
 have htI:(m.term:Int)<x.p.term:=by omega
 obtain ⟨U,eU⟩:∃ U,us.length=U:=⟨_,rfl⟩
 rw [eU] at c0 hlt hcap hkI
 clear h hR hat hk hm bW hbs eU
 go_enter Tryz.func58,Tryz.ntmps58
 go_wp2
 (try rw [hW])
 clear hW
 go_quiet (fail)
 go_wp2
 obtain ⟨W1,hW1,bW1,sW1⟩:=fold_dn W nq
 rw [hW1]
 have HB1:=hide bW1
 obtain ⟨s1,s2,s3,s4⟩:=HS.out W1 bW1
 clear hW1 bW1 m2 c0
 go_region_held_law (fun wx=>wx.cell? ⟨P,m.to*9+1,none⟩=some (.int .i64 x.p.term)∧wx.cell? ⟨w.heap.size,1,none⟩=some (.int .i64 m.frm)∧wx.cell? ⟨w.heap.size,2,none⟩=some (.int .i64 m.to)∧wx.cell? ⟨w.heap.size,3,none⟩=some (.int .i64 m.term)) ((refine HS.out _ ?_;first | exact HB1.out | exact HB1.out.drew | exact more HB1.out _ | exact (more HB1.out _).drew | exact more HB1.out.drew _)) (fail)
 go_wp2
 obtain ⟨W2,hW2⟩:∃ W2,(W1.alloc (.cells #[.int .i64 4,.int .i64 m.to,.int .i64 m.frm,.int .i64 x.p.term,.int .i64 0,.int .i64 0,.int .i64 0,.bool false,.slice none 0 0] 69)).drew=W2:=⟨_,rfl⟩
 (try rw [hW2])
 have H2:=hide (HSt.out W1 W2 HB1.out sW1 hW2)
 obtain ⟨s1,s2,s3,s4⟩:=HS.out W2 (by rw [←hW2];exact (more HB1.out _).drew)
 clear hW2 HB1 HS HSt s2 s3 sW1
 go_quiet (fail)
 obtain ⟨W3,hW3,bW3,sW3⟩:=fold_dn W2 nq
 (try rw [hW3])
 have H3:=hide (H2.out.below bW3)
 have HZ:=hide (HSend.out W3 H3.out)
 have q0:W3.cell? ⟨w.heap.size+1,0,none⟩=some (.int .i64 4):=cell_of H3.out.b1 rfl
 have q1:W3.cell? ⟨w.heap.size+1,1,none⟩=some (.int .i64 m.to):=cell_of H3.out.b1 rfl
 have q2:W3.cell? ⟨w.heap.size+1,2,none⟩=some (.int .i64 m.frm):=cell_of H3.out.b1 rfl
 have q3:W3.cell? ⟨w.heap.size+1,3,none⟩=some (.int .i64 x.p.term):=cell_of H3.out.b1 rfl
 have q4:W3.cell? ⟨w.heap.size+1,4,none⟩=some (.int .i64 0):=cell_of H3.out.b1 rfl
 have q5:W3.cell? ⟨w.heap.size+1,5,none⟩=some (.int .i64 0):=cell_of H3.out.b1 rfl
 have q6:W3.cell? ⟨w.heap.size+1,6,none⟩=some (.int .i64 0):=cell_of H3.out.b1 rfl
 have q7:W3.cell? ⟨w.heap.size+1,7,none⟩=some (.bool false):=cell_of H3.out.b1 rfl
 have q8:W3.cell? ⟨w.heap.size+1,8,none⟩=some (.slice none 0 0):=cell_of H3.out.b1 rfl
 clear hW3 bW3 H2 H3 HSend s1 s4
 go_wp2_with (go_at_call 38;refine HZ.out.mono ?_;rintro rr w1 ⟨rfl,hsd⟩)
 refine bodyPost_ret (v:=.tuple #[]) (by simp [results,Tryz.results58]) rfl ⟨rfl,hsd⟩
end Go.Proofs.YtcfdmbkiinjmaaaGreat.sapd

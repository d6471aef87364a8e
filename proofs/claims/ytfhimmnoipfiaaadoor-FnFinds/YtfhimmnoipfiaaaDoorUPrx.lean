import Derived.Test.YtfhimmnoipfiaaaDoorUPco
import Derived.Test.YtfhimmnoipfiaaaDoorUPap
namespace Go.Proofs.YtfhimmnoipfiaaaDoor.eng
open Go.ChangeShapes Go.WideShapes Go.ChangeAt Go.RowKit
open bytes places sets tz rex
set_option linter.unusedVariables false
open pile src letters drw
def RxD (w:World) (d:Nat) (e:Ending) (w':World):Prop:=∃ (kind n9 m9:Int) (ss:ByteArray) (o:Option Addr) (ln cp:Nat) (T:Tr) (M:Fz),e=.returned (.agg #[.int .i64 kind,.int .i64 n9,.int .i64 m9,.string ss,.slice o ln cp])∧Good T∧RxAt M T #[.int .i64 kind,.int .i64 n9,.int .i64 m9,.string ss,.slice o ln cp]∧In M w'∧(∀ x ob,M x=some ob→w.heap.size≤x)∧Below d w w'
theorem belowd_setNew {w v:World} {R d:Nat} (h:Below d w v) (hR:d≤R) (i:Nat) (u:Value):Below d w (v.setCell ⟨R,i,none⟩ u) :=
 ⟨h.os,h.tape,h.output,by simpa using h.size,fun k hk=>(heap_setCell_other v ⟨R,i,none⟩ k u (by show k≠R;omega)).trans (h.block k hk)⟩
theorem set5_belowd {w v:World} {R d:Nat} (h:Below d w v) (hR:d≤R) (v0 v1 v2 v3 v4:Value):Below d w (set5 v R v0 v1 v2 v3 v4) :=
 belowd_setNew (belowd_setNew (belowd_setNew (belowd_setNew (belowd_setNew h hR 0 v0) hR 1 v1) hR 2 v2) hR 3 v3) hR 4 v4
theorem good_a:Good (.char 97) where
 ok:=by rw [OkT];exact ⟨by decide,by decide⟩
 num:=by simp [NumT]
 sz:=by simp [szT]
 wt:=by simp [wtT]
 ng:=by simp [ngT]
set_option maxRecDepth 20000 in
set_option maxHeartbeats 8000000 in
theorem rx_any (w:World) (d:Nat) (ao:Option Addr) (cap:Nat) (xs:List Int) (sd:Int) (h:SS w d ao cap xs 0 sd) (hd:d<w.heap.size) :
  Calls Tryd.prog 16 #[.pointer (some ⟨d,0,none⟩)] w (RxD w d):=by
 have hBx:Below w.heap.size w (w.alloc (.cells #[.int .i64 0,.int .i64 0,.int .i64 0,.string ⟨#[]⟩,.slice none 0 0] 25)):=(Below.refl _ _).alloc (Nat.le_refl _) _
 obtain ⟨W1,hW1⟩:∃ W1,w.alloc (.cells #[.int .i64 0,.int .i64 0,.int .i64 0,.string ⟨#[]⟩,.slice none 0 0] 25)=W1:=⟨_,rfl⟩
 rw [hW1] at hBx
 have hz1:W1.heap.size=w.heap.size+1:=by rw [←hW1];simp
 have x1:W1.heap[w.heap.size]?=some (.cells #[.int .i64 0,.int .i64 0,.int .i64 0,.string ⟨#[]⟩,.slice none 0 0] 25 (0,0)):=by rw [←hW1];exact heap_alloc_new w _
 have D0:Dw W1 d ao cap xs 0 W1:=Dw.refl (h.below hBx) (Nat.le_refl _)
 have HRW:Hid (∀ W,Kept d W1 W→W.heap[w.heap.size]?=some (.cells #[.int .i64 0,.int .i64 0,.int .i64 0,.string ⟨#[]⟩,.slice none 0 0] 25 (0,0))):=hide fun W hk=>(hk.block _ (by omega) (by simp;omega)).trans x1
 have HBW:Hid (∀ W,Kept d W1 W→Below d w W):=hide fun W hk=>⟨hk.os.trans hBx.os,hk.tape.trans hBx.tape,hk.output.trans hBx.output,Nat.le_trans hBx.size hk.size,fun k hkd=>(hk.block k (by omega) (by simp;omega)).trans (hBx.block k (by omega))⟩
 have HZ:Hid (W1.heap.size=w.heap.size+1∧d<w.heap.size):=hide ⟨hz1,hd⟩
 have HCh:=hide (chance_dw D0 (by omega) 2 (by omega) (by omega))
 clear hBx hz1 x1 D0 h hd
 go_enter Tryd.func16,Tryd.ntmps16
 (try rw [hW1])
 go_wp2_with fail
 refine HCh.out.mono ?_
 rintro e w2 ⟨ere,rfl,D2⟩
 have HD2:=hide D2
 clear HCh D2 hW1
 go_wp2
 go_loopw [4,5,6,7] (fun v4 _ _ _ wr=>∃ i:Nat,i≤8∧v4=.int .i64 (i:Int)∧Hid (Dw W1 d ao cap xs (3+i*10000) wr)) (fun v4 _ _ _ _=>8-(intOf v4).toNat)
 case atStart=>exact ⟨0,by omega,rfl,hide (HD2.out.up (by omega))⟩
 case round =>
  obtain ⟨i,hi,rfl,HX⟩:=hrel
  clear HD2
  by_cases hi8:i<8
  ·have hii:(i:Int)<8:=by omega
   have hiw:IntKind.i64.wrap ((i:Int)+1)=((i+1:Nat):Int):=by rw [IntKind.wrap_i64];omega
   have HA:=hide (any_dw ere W1 wr d ao cap xs _ HX.out (by omega))
   go_wp2_with fail
   refine HA.out.mono ?_
   rintro e w3 ⟨S,hS,rfl,D3⟩
   have HD3:=hide D3
   have HC:=hide (compile_any w3 S ere hS)
   clear HA D3 HX hS
   go_wp2_with fail
   refine HC.out.mono ?_
   rintro e w4 ⟨kind,n9,m9,ss,o,ln,cp,c,x,rfl,hb4,hT⟩
   have HD4:=hide (HD3.out.below hb4)
   have HT:=hide hT
   have HB4:=hide hb4
   have HL4:Hid (w.heap.size<w3.heap.size∧w3.heap.size≤w4.heap.size):=hide ⟨by have:=HD3.out.bel.size;have:=HZ.out;omega,hb4.size⟩
   clear HC hb4 hT
   by_cases hc:c=0
   ·subst hc
    obtain ⟨w5,hw5⟩:∃ w5,w4.alloc (.cells #[.int .i64 kind,.int .i64 n9,.int .i64 m9,.string ss,.slice o ln cp] 25)=w5:=⟨_,rfl⟩
    have hb5:Below w4.heap.size w4 w5:=by rw [←hw5];exact (Below.refl _ _).alloc (Nat.le_refl _) _
    have x5:w5.heap[w4.heap.size]?=some (.cells #[.int .i64 kind,.int .i64 n9,.int .i64 m9,.string ss,.slice o ln cp] 25 (0,0)):=by rw [←hw5];exact heap_alloc_new w4 _
    obtain ⟨t0,t1,t2,t3,t4⟩:=cells5c x5
    obtain ⟨T,M,g1,g2,g3,g4⟩:=HT.out rfl
    have HPost:Hid (RxD w d (.returned (.agg #[.int .i64 kind,.int .i64 n9,.int .i64 m9,.string ss,.slice o ln cp])) (set5 w5 w.heap.size (.int .i64 kind) (.int .i64 n9) (.int .i64 m9) (.string ss) (.slice o ln cp))):=hide ⟨_,_,_,_,_,_,_,T,M,rfl,g1,g2,fun y ob hy=>(set5_other w5 w.heap.size y _ _ _ _ _ (by have:=g4 y ob hy;have:=HL4.out;omega)).trans ((hb5.block y (Array.getElem?_eq_some_iff.1 (g3 y ob hy)).1).trans (g3 y ob hy)),fun y ob hy=>by have:=g4 y ob hy;have:=HL4.out;omega,set5_belowd (HBW.out w5 ((HD4.out.below hb5).bel)) (Nat.le_of_lt HZ.out.2) _ _ _ _ _⟩
    have HX5:=hide (HRW.out w5 (HD4.out.below hb5).bel)
    clear hb5 x5 g1 g2 g3 g4 HT
    have xr:=HX5.out
    obtain ⟨r0',r1',r2',r3',r4'⟩:=cells5c xr
    have z0:=fz5c xr 0
    have z1:=fz5c xr 1
    have z2:=fz5c xr 2
    have z3:=fz5c xr 3
    have z4:=fz5c xr 4
    have HE:Hid ((set5 w5 w.heap.size (.int .i64 kind) (.int .i64 n9) (.int .i64 m9) (.string ss) (.slice o ln cp)).heap[w.heap.size]?=some (.cells #[.int .i64 kind,.int .i64 n9,.int .i64 m9,.string ss,.slice o ln cp] 25 (0,0))∧RxD w d (.returned (.agg #[.int .i64 kind,.int .i64 n9,.int .i64 m9,.string ss,.slice o ln cp])) (set5 w5 w.heap.size (.int .i64 kind) (.int .i64 n9) (.int .i64 m9) (.string ss) (.slice o ln cp))):=hide ⟨set5_at xr trivial (.int .i64 kind) (.int .i64 n9) (.int .i64 m9) (.string ss) (.slice o ln cp),HPost.out⟩
    unfold set5 at HE
    clear xr
    go_wp2
    generalize (((((w5.setCell ⟨w.heap.size,0,none⟩ (.int .i64 kind)).setCell ⟨w.heap.size,1,none⟩ (.int .i64 n9)).setCell ⟨w.heap.size,2,none⟩ (.int .i64 m9)).setCell ⟨w.heap.size,3,none⟩ (.string ss)).setCell ⟨w.heap.size,4,none⟩ (.slice o ln cp))=Wf at HE ⊢
    obtain ⟨u0,u1,u2,u3,u4⟩:=cells5c HE.out.1
    refine bodyPost_ret (v:=.agg #[.int .i64 kind,.int .i64 n9,.int .i64 m9,.string ss,.slice o ln cp]) ?_ rfl HE.out.2
    simp [results,Tryd.results16,go_sem,u0,u1,u2,u3,u4]
   ·have e1:(c == 0)=false:=by simpa using hc
    have e2:decide (c=0)=false:=decide_eq_false hc
    have HE:Hid (∀ o:Obj,Dw W1 d ao cap xs (3+(i+1)*10000) (w4.alloc o)):=hide fun o=>(HD4.out.below ((Below.refl _ _).alloc (Nat.le_refl _) o)).up (by omega)
    clear hc HT HD3 HD4 HB4
    go_wp2
    go_roundw
    case rel=>exact ⟨i+1,by omega,by simp,hide (HE.out _)⟩
    case measure=>simp [intOf];omega
  ·have hii:¬ (i:Int)<8:=by omega
   have HN:=hide (char_any wr 97 (by decide) (by decide))
   have HXX:=hide (HX.out.up (n':=100000) (by omega))
   clear HX
   go_wp2_with fail
   refine HN.out.mono ?_
   rintro e w9 ⟨rfl,b9⟩
   have HD9:=hide (HXX.out.below b9)
   unfold rxV
   clear HN b9
   have xr:=HRW.out _ HD9.out.bel
   obtain ⟨r0',r1',r2',r3',r4'⟩:=cells5c xr
   have z0:=fz5c xr 0
   have z1:=fz5c xr 1
   have z2:=fz5c xr 2
   have z3:=fz5c xr 3
   have z4:=fz5c xr 4
   have HE:Hid ((set5 w9 w.heap.size (.int .i64 1) (.int .i64 97) (.int .i64 0) (.string mt0) (.slice none 0 0)).heap[w.heap.size]?=some (.cells #[.int .i64 1,.int .i64 97,.int .i64 0,.string mt0,.slice none 0 0] 25 (0,0))∧RxD w d (.returned (.agg #[.int .i64 1,.int .i64 97,.int .i64 0,.string mt0,.slice none 0 0])) (set5 w9 w.heap.size (.int .i64 1) (.int .i64 97) (.int .i64 0) (.string mt0) (.slice none 0 0))):=hide ⟨set5_at xr trivial (.int .i64 1) (.int .i64 97) (.int .i64 0) (.string mt0) (.slice none 0 0),⟨_,_,_,_,_,_,_,.char 97,fun _=>none,rfl,good_a,by rw [RxAt];rfl,fun y ob hy=>(by cases hy),fun y ob hy=>(by cases hy),set5_belowd (HBW.out w9 HD9.out.bel) (Nat.le_of_lt HZ.out.2) _ _ _ _ _⟩⟩
   unfold set5 at HE
   clear xr
   go_wp2
   generalize (((((w9.setCell ⟨w.heap.size,0,none⟩ (.int .i64 1)).setCell ⟨w.heap.size,1,none⟩ (.int .i64 97)).setCell ⟨w.heap.size,2,none⟩ (.int .i64 0)).setCell ⟨w.heap.size,3,none⟩ (.string mt0)).setCell ⟨w.heap.size,4,none⟩ (.slice none 0 0))=Wf at HE ⊢
   obtain ⟨u0,u1,u2,u3,u4⟩:=cells5c HE.out.1
   refine bodyPost_ret (v:=.agg #[.int .i64 1,.int .i64 97,.int .i64 0,.string mt0,.slice none 0 0]) ?_ rfl HE.out.2
   simp [results,Tryd.results16,go_sem,u0,u1,u2,u3,u4]
end Go.Proofs.YtfhimmnoipfiaaaDoor.eng

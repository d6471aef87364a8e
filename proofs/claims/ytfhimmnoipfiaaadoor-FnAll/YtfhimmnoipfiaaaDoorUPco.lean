import Derived.Test.YtfhimmnoipfiaaaDoorUPwh
import Derived.Test.YtfhimmnoipfiaaaDoorUPti
import Derived.Test.YtfhimmnoipfiaaaDoorQ08
import Derived.Deep.QuietTactic
import Derived.BigQuiet
import Derived.Deep.RegionLaw
namespace Go.Proofs.YtfhimmnoipfiaaaDoor.eng
open Go.ChangeShapes Go.WideShapes Go.ChangeAt Go.RowKit
open bytes places sets tz rex
set_option linter.unusedVariables false
def CmR (w:World) (e:Ending) (w':World):Prop:=∃ (kind n9 m9:Int) (ss:ByteArray) (o:Option Addr) (ln cp:Nat) (c x:Int),e=.returned (.tuple #[.agg #[.int .i64 kind,.int .i64 n9,.int .i64 m9,.string ss,.slice o ln cp],.int .i64 c,.int .i64 x])∧Below w.heap.size w w'∧(c=0→∃ (T:Tr) (M:Fz),Good T∧RxAt M T #[.int .i64 kind,.int .i64 n9,.int .i64 m9,.string ss,.slice o ln cp]∧In M w'∧∀ x ob,M x=some ob→w.heap.size<x)
theorem cm_bad {w w':World} {c x:Int} (hc:c≠0) (hb:Below w.heap.size w w'):CmR w (.returned (.tuple #[.agg #[.int .i64 0,.int .i64 0,.int .i64 0,.string ⟨#[]⟩,.slice none 0 0],.int .i64 c,.int .i64 x])) w':=⟨_,_,_,_,_,_,_,c,x,rfl,hb,fun e=>absurd e hc⟩
theorem below_setNew {w v:World} {R:Nat} (h:Below w.heap.size w v) (hR:w.heap.size≤R) (i:Nat) (u:Value):Below w.heap.size w (v.setCell ⟨R,i,none⟩ u) :=
 ⟨h.os,h.tape,h.output,by simpa using h.size,fun k hk=>(heap_setCell_other v ⟨R,i,none⟩ k u (by show k≠R;omega)).trans (h.block k hk)⟩
theorem set5_below {w v:World} {R:Nat} (h:Below w.heap.size w v) (hR:w.heap.size≤R) (v0 v1 v2 v3 v4:Value):Below w.heap.size w (set5 v R v0 v1 v2 v3 v4) :=
 below_setNew (below_setNew (below_setNew (below_setNew (below_setNew h hR 0 v0) hR 1 v1) hR 2 v2) hR 3 v3) hR 4 v4
set_option maxRecDepth 20000 in
set_option maxHeartbeats 16000000 in
theorem compile_any (w:World) (S:ByteArray) (ere:Bool) (hS:S.size≤65536):Calls Tryd.prog 26 #[.string S,.bool ere] w (CmR w):=by
 obtain ⟨ts,rfl,hlen,hts⟩:=str_bytes S
 obtain ⟨w1,hW1,hbox⟩:=box_new w
 have hB1:Below w.heap.size w w1:=by rw [←hW1];exact (Below.refl _ _).alloc (Nat.le_refl _) _
 have hz1:w1.heap.size=w.heap.size+1:=by rw [←hW1];simp
 have xr1:w1.heap[w.heap.size]?=some (.cells #[.int .i64 0,.int .i64 0,.int .i64 0,.string ⟨#[]⟩,.slice none 0 0] 25 (0,0)):=by rw [←hW1];exact heap_alloc_new w _
 have HB1:=hide hB1
 have HX1:=hide xr1
 have t1:¬ (65536:Int)<((strOfNums ts).size:Int):=by omega
 by_cases h200:200<ts.length
 ·have t2:(200:Int)<((strOfNums ts).size:Int):=by omega
  clear hbox
  generalize strOfNums ts=S at *
  have xr:=HX1.out
  obtain ⟨r0',r1',r2',r3',r4'⟩:=cells5c xr
  have z0:=fz5c xr 0
  have z1:=fz5c xr 1
  have z2:=fz5c xr 2
  have z3:=fz5c xr 3
  have z4:=fz5c xr 4
  have HE:Hid ((set5 w1 w.heap.size (.int .i64 0) (.int .i64 0) (.int .i64 0) (.string ⟨#[]⟩) (.slice none 0 0)).heap[w.heap.size]?=some (.cells #[.int .i64 0,.int .i64 0,.int .i64 0,.string ⟨#[]⟩,.slice none 0 0] 25 (0,0))∧CmR w (.returned (.tuple #[.agg #[.int .i64 0,.int .i64 0,.int .i64 0,.string ⟨#[]⟩,.slice none 0 0],.int .i64 14,.int .i64 0])) (set5 w1 w.heap.size (.int .i64 0) (.int .i64 0) (.int .i64 0) (.string ⟨#[]⟩) (.slice none 0 0))):=hide ⟨set5_at xr trivial (.int .i64 0) (.int .i64 0) (.int .i64 0) (.string ⟨#[]⟩) (.slice none 0 0),cm_bad (by decide) (set5_below HB1.out (Nat.le_refl _) _ _ _ _ _)⟩
  unfold set5 at HE
  clear xr
  go_enter Tryd.func26,Tryd.ntmps26
  (try rw [hW1])
  go_wp2
  generalize (((((w1.setCell ⟨w.heap.size,0,none⟩ (.int .i64 0)).setCell ⟨w.heap.size,1,none⟩ (.int .i64 0)).setCell ⟨w.heap.size,2,none⟩ (.int .i64 0)).setCell ⟨w.heap.size,3,none⟩ (.string ⟨#[]⟩)).setCell ⟨w.heap.size,4,none⟩ (.slice none 0 0))=Wf at HE ⊢
  obtain ⟨u0,u1,u2,u3,u4⟩:=cells5c HE.out.1
  refine bodyPost_ret (v:=.tuple #[.agg #[.int .i64 0,.int .i64 0,.int .i64 0,.string ⟨#[]⟩,.slice none 0 0],.int .i64 14,.int .i64 0]) ?_ rfl HE.out.2
  simp [results,Tryd.results26,go_sem,u0,u1,u2,u3,u4]
 ·have t2:¬ (200:Int)<((strOfNums ts).size:Int):=by omega
  by_cases h0:((strOfNums ts).toList == [])=true
  ·clear hbox
   generalize strOfNums ts=S at *
   have xr:=HX1.out
   obtain ⟨r0',r1',r2',r3',r4'⟩:=cells5c xr
   have z0:=fz5c xr 0
   have z1:=fz5c xr 1
   have z2:=fz5c xr 2
   have z3:=fz5c xr 3
   have z4:=fz5c xr 4
   have HE:Hid ((set5 w1 w.heap.size (.int .i64 0) (.int .i64 0) (.int .i64 0) (.string ⟨#[]⟩) (.slice none 0 0)).heap[w.heap.size]?=some (.cells #[.int .i64 0,.int .i64 0,.int .i64 0,.string ⟨#[]⟩,.slice none 0 0] 25 (0,0))∧CmR w (.returned (.tuple #[.agg #[.int .i64 0,.int .i64 0,.int .i64 0,.string ⟨#[]⟩,.slice none 0 0],.int .i64 4,.int .i64 0])) (set5 w1 w.heap.size (.int .i64 0) (.int .i64 0) (.int .i64 0) (.string ⟨#[]⟩) (.slice none 0 0))):=hide ⟨set5_at xr trivial (.int .i64 0) (.int .i64 0) (.int .i64 0) (.string ⟨#[]⟩) (.slice none 0 0),cm_bad (by decide) (set5_below HB1.out (Nat.le_refl _) _ _ _ _ _)⟩
   unfold set5 at HE
   clear xr
   go_enter Tryd.func26,Tryd.ntmps26
   (try rw [hW1])
   go_wp2
   generalize (((((w1.setCell ⟨w.heap.size,0,none⟩ (.int .i64 0)).setCell ⟨w.heap.size,1,none⟩ (.int .i64 0)).setCell ⟨w.heap.size,2,none⟩ (.int .i64 0)).setCell ⟨w.heap.size,3,none⟩ (.string ⟨#[]⟩)).setCell ⟨w.heap.size,4,none⟩ (.slice none 0 0))=Wf at HE ⊢
   obtain ⟨u0,u1,u2,u3,u4⟩:=cells5c HE.out.1
   refine bodyPost_ret (v:=.tuple #[.agg #[.int .i64 0,.int .i64 0,.int .i64 0,.string ⟨#[]⟩,.slice none 0 0],.int .i64 4,.int .i64 0]) ?_ rfl HE.out.2
   simp [results,Tryd.results26,go_sem,u0,u1,u2,u3,u4]
  ·obtain ⟨W2,hW2⟩:∃ W2,w1.alloc (.cells #[.string (strOfNums ts),.int .i64 0,.bool ere,.int .i64 0,.int .i64 0,.int .i64 0,.int .i64 0] 84)=W2:=⟨_,rfl⟩
   have hz2:W2.heap.size=w1.heap.size+1:=by rw [←hW2];simp
   have hB2:Below w1.heap.size w1 W2:=by rw [←hW2];exact (Below.refl _ _).alloc (Nat.le_refl _) _
   have hPB:PB ⟨ts,0,ere,0,0,0,0⟩ w1.heap.size W2:=by rw [←hW2];exact heap_alloc_new w1 _
   have HOk:Okp ⟨ts,0,ere,0,0,0,0⟩:=⟨by show ts.length≤200;omega,hts,Nat.zero_le _,Nat.le_refl _,Nat.le_refl _,fun _=>Nat.zero_le _⟩
   have HWh:=hide (whole_any ts.length ⟨ts,0,ere,0,0,0,0⟩ w1.heap.size W2 hPB HOk (Nat.le_refl _))
   have HRW:Hid (∀ W,PG w1.heap.size W2 W→W.heap[w.heap.size]?=some (.cells #[.int .i64 0,.int .i64 0,.int .i64 0,.string ⟨#[]⟩,.slice none 0 0] 25 (0,0))):=hide fun W hg=>(hg.block _ (by omega) (by simp;omega)).trans ((hB2.block _ (by omega)).trans HX1.out)
   have HBW:Hid (∀ W,PG w1.heap.size W2 W→Below w.heap.size w W):=hide fun W hg=>HB1.out.trans ⟨hg.os.trans hB2.os,hg.tape.trans hB2.tape,hg.output.trans hB2.output,by have:=hg.size;omega,fun k hk=>(hg.block k (by omega) (by simp;omega)).trans (hB2.block k (by omega))⟩
   have e1:((strOfNums ts).toList == [])=false:=by simpa using h0
   have HW2z:Hid (w.heap.size<W2.heap.size):=hide (by omega)
   have HLen:Hid ((strOfNums ts).size=ts.length∧ts.length≤200):=hide ⟨by omega,by omega⟩
   have HZ1:=hide hz1
   clear hbox hz2 hB2 hPB HOk xr1 hB1 h200 hz1 h0 hlen
   go_enter Tryd.func26,Tryd.ntmps26
   (try rw [hW1])
   go_wp2_with fail
   refine HWh.out.mono ?_
   rintro e w6 ⟨kind,n9,m9,ss,o,ln,cp,q,rfl,tr⟩
   obtain ⟨w7,e7⟩:∃ w7,w6.alloc (.cells #[.int .i64 kind,.int .i64 n9,.int .i64 m9,.string ss,.slice o ln cp] 25)=w7:=⟨_,rfl⟩
   have x7:w7.heap[w6.heap.size]?=some (.cells #[.int .i64 kind,.int .i64 n9,.int .i64 m9,.string ss,.slice o ln cp] 25 (0,0)):=by rw [←e7];exact heap_alloc_new w6 _
   have hb7:Below w6.heap.size w6 w7:=by rw [←e7];exact (Below.refl _ _).alloc (Nat.le_refl _) _
   have hz7:w7.heap.size=w6.heap.size+1:=by rw [←e7];simp
   have rd7:Hid (Rd w1.heap.size W2 q w7):=hide (tr.rd.below hb7)
   have hps:=tr.rd.pg.size
   have hbl:=tr.rd.pb.lt
   have rd6s:=hide hps
   have HX7:Hid (∀ W,PG w1.heap.size w7 W→W.heap[w6.heap.size]?=some (.cells #[.int .i64 kind,.int .i64 n9,.int .i64 m9,.string ss,.slice o ln cp] 25 (0,0))):=hide fun W hg=>(hg.block _ (by omega) (by simp;omega)).trans x7
   have HTG:Hid (q.code=0→q.at_≤ts.length∧q.groups≤9∧TreeAt W2.heap.size w6 #[.int .i64 kind,.int .i64 n9,.int .i64 m9,.string ss,.slice o ln cp] 0 q.groups (3*(q.at_-0)+1)):=hide fun e=>⟨(tr.good e).1,(tr.good e).2.1,(tr.good e).2.2.le (by show 3*(q.at_-0)+1-2*0≤_;omega)⟩
   have HQT:Hid (q.ts=ts∧q.at_≤1000):=hide ⟨tr.nx.ts,by have h:=tr.lim;have:q.at_+2*0≤3*ts.length+10:=h;have:=HLen.out.2;omega⟩
   have H76:=hide hb7
   clear tr x7 hz7 hps hb7 HWh hbl
   obtain ⟨y0,y1,y2,y3,y5,y6,yf1,yf5,yf6⟩:=rd7.out.can
   by_cases hc:q.code=0
   ·have HC:=hide hc
    rw [hc] at y3
    by_cases hat:q.at_<ts.length
    ·have a1:(q.at_:Int)<((strOfNums ts).size:Int):=by have:=HLen.out.1;omega
     have a1':(q.at_:Int)<(ts.length:Int):=by omega
     have HFx:=hide ((Rd.refl rd7.out.pb).failx (c:=4) (by decide) (q.at_:Int))
     clear hc hat
     go_wp2_with fail
     refine HFx.out.mono ?_
     rintro e w8 ⟨r,rfl,rdr,kc,_⟩
     have rd8:=hide (rd7.out.tr rdr)
     have HCd:=hide kc
     clear HFx rdr kc rd7 y0 y1 y2 y3 y5 y6 yf1 yf5 yf6
     have HCr:=hide HCd.out
     obtain ⟨y0,y1,y2,y3,y5,y6,yf1,yf5,yf6⟩:=rd8.out.can
     have y4:=rd8.out.pb.cells.2.2.2.2.1
     have k1:(r.code == 0)=false:=by rw [beq_eq_false_iff_ne];exact HCd.out
     have k2:decide (r.code=0)=false:=decide_eq_false HCd.out
     have k3:(r.code != 0)=true:=by simp [HCd.out]
     have xr:=HRW.out _ rd8.out.pg
     obtain ⟨r0',r1',r2',r3',r4'⟩:=cells5c xr
     have z0:=fz5c xr 0
     have z1:=fz5c xr 1
     have z2:=fz5c xr 2
     have z3:=fz5c xr 3
     have z4:=fz5c xr 4
     have HBZ:Hid (∀ W,Below w8.heap.size w8 W→Below w.heap.size w W):=hide fun W hb=>(HBW.out _ rd8.out.pg).trans (hb.mono (HBW.out _ rd8.out.pg).size)
     clear xr
     have hne:w1.heap.size≠w.heap.size:=by have:=HZ1.out;omega
     have hne':w.heap.size≠w1.heap.size:=by have:=HZ1.out;omega
     have HE:Hid ((set5 w8 w.heap.size (.int .i64 0) (.int .i64 0) (.int .i64 0) (.string ⟨#[]⟩) (.slice none 0 0)).drew.heap[w.heap.size]?=some (.cells #[.int .i64 0,.int .i64 0,.int .i64 0,.string ⟨#[]⟩,.slice none 0 0] 25 (0,0))∧CmR w (.returned (.tuple #[.agg #[.int .i64 0,.int .i64 0,.int .i64 0,.string ⟨#[]⟩,.slice none 0 0],.int .i64 r.code,.int .i64 r.place])) (set5 w8 w.heap.size (.int .i64 0) (.int .i64 0) (.int .i64 0) (.string ⟨#[]⟩) (.slice none 0 0)).drew):=hide ⟨set5_at (HRW.out _ rd8.out.pg) trivial _ _ _ _ _,cm_bad HCd.out ((set5_below (HBW.out _ rd8.out.pg) (Nat.le_refl _) _ _ _ _ _).drew)⟩
     unfold set5 at HE
     go_wp2
     go_region
     go_wp2
     generalize (((((w8.setCell ⟨w.heap.size,0,none⟩ (.int .i64 0)).setCell ⟨w.heap.size,1,none⟩ (.int .i64 0)).setCell ⟨w.heap.size,2,none⟩ (.int .i64 0)).setCell ⟨w.heap.size,3,none⟩ (.string ⟨#[]⟩)).setCell ⟨w.heap.size,4,none⟩ (.slice none 0 0)).drew=Wf at HE ⊢
     obtain ⟨u0,u1,u2,u3,u4⟩:=cells5c HE.out.1
     refine bodyPost_ret (v:=.tuple #[.agg #[.int .i64 0,.int .i64 0,.int .i64 0,.string ⟨#[]⟩,.slice none 0 0],.int .i64 r.code,.int .i64 r.place]) ?_ rfl HE.out.2
     simp [results,Tryd.results26,go_sem,u0,u1,u2,u3,u4]
    ·have a1:¬ (q.at_:Int)<((strOfNums ts).size:Int):=by have:=HLen.out.1;omega
     have a1':¬ (q.at_:Int)<(ts.length:Int):=by omega
     have a2:decide ((q.at_:Int)<((strOfNums ts).size:Int))=false:=decide_eq_false a1
     have a2':decide ((q.at_:Int)<(ts.length:Int))=false:=decide_eq_false a1'
     obtain ⟨hqa,hqg,T,M,t1',t2',t3',t4',t5',t6',t7'⟩:=HTG.out hc
     have hIn:In M w7:=(t2').below H76.out
     have hRx:=t1'
     have HT:=hide (And.intro t1' (And.intro t4' (And.intro t5' t6')))
     have HTN:=hide t7'
     have HSz:=hide (size_any T M w7 #[.int .i64 kind,.int .i64 n9,.int .i64 m9,.string ss,.slice o ln cp] (szT T) hIn t1' (Nat.le_refl _) (by have:=HLen.out;omega))
     have HInM:=hide hIn
     obtain ⟨s0,s1,s2,s3,s4⟩:=cells5c (HX7.out w7 PG.refl)
     have HQG:Hid (q.groups≤9):=hide hqg
     have HMlo:Hid (∀ x ob,M x=some ob→w.heap.size<x):=hide fun x ob hx=>by have:=t3' x ob hx;have:=HW2z.out;omega
     have HB7z:Hid (w.heap.size<w6.heap.size):=hide (by have:=rd6s.out;have:=HW2z.out;omega)
     have HSB:Hid (szT T≤1000000):=hide (by have:=HLen.out;omega)
     clear hc hat t1' t2' t3' t4' t5' t6' t7' hIn hRx hqa hqg HTG
     go_wp2_with fail
     refine HSz.out.mono ?_
     rintro e w8 ⟨rfl,b8⟩
     have hb8:=hide b8
     have rd8:=hide (rd7.out.below b8)
     clear HSz b8 s0 s1 s2 s3 s4
     by_cases hs:120<szT T
     ·have d1:(120:Int)<((szT T:Nat):Int):=by omega
      have d2:decide ((120:Int)<((szT T:Nat):Int))=true:=decide_eq_true d1
      have d3:decide (120<szT T)=true:=decide_eq_true hs
      have HRR:=hide (HRW.out _ rd8.out.pg)
      have xr:=HRR.out
      obtain ⟨r0',r1',r2',r3',r4'⟩:=cells5c xr
      have z0:=fz5c xr 0
      have z1:=fz5c xr 1
      have z2:=fz5c xr 2
      have z3:=fz5c xr 3
      have z4:=fz5c xr 4
      have HE:Hid ((set5 w8 w.heap.size (.int .i64 0) (.int .i64 0) (.int .i64 0) (.string ⟨#[]⟩) (.slice none 0 0)).heap[w.heap.size]?=some (.cells #[.int .i64 0,.int .i64 0,.int .i64 0,.string ⟨#[]⟩,.slice none 0 0] 25 (0,0))∧CmR w (.returned (.tuple #[.agg #[.int .i64 0,.int .i64 0,.int .i64 0,.string ⟨#[]⟩,.slice none 0 0],.int .i64 7,.int .i64 0])) (set5 w8 w.heap.size (.int .i64 0) (.int .i64 0) (.int .i64 0) (.string ⟨#[]⟩) (.slice none 0 0))):=hide ⟨set5_at xr trivial (.int .i64 0) (.int .i64 0) (.int .i64 0) (.string ⟨#[]⟩) (.slice none 0 0),cm_bad (by decide) (set5_below (HBW.out _ rd8.out.pg) (Nat.le_refl _) _ _ _ _ _)⟩
      unfold set5 at HE
      clear xr
      go_wp2
      generalize (((((w8.setCell ⟨w.heap.size,0,none⟩ (.int .i64 0)).setCell ⟨w.heap.size,1,none⟩ (.int .i64 0)).setCell ⟨w.heap.size,2,none⟩ (.int .i64 0)).setCell ⟨w.heap.size,3,none⟩ (.string ⟨#[]⟩)).setCell ⟨w.heap.size,4,none⟩ (.slice none 0 0))=Wf at HE ⊢
      obtain ⟨u0,u1,u2,u3,u4⟩:=cells5c HE.out.1
      refine bodyPost_ret (v:=.tuple #[.agg #[.int .i64 0,.int .i64 0,.int .i64 0,.string ⟨#[]⟩,.slice none 0 0],.int .i64 7,.int .i64 0]) ?_ rfl HE.out.2
      simp [results,Tryd.results26,go_sem,u0,u1,u2,u3,u4]
     ·have d1:¬ (120:Int)<((szT T:Nat):Int):=by omega
      have d2:decide ((120:Int)<((szT T:Nat):Int))=false:=decide_eq_false d1
      have d3:decide (120<szT T)=false:=decide_eq_false hs
      have HS120:Hid (szT T≤120):=hide (by omega)
      have HWt:=hide (sweight_any T M w8 #[.int .i64 kind,.int .i64 n9,.int .i64 m9,.string ss,.slice o ln cp] (szT T) ⟨20,HT.out.2.2.2⟩ (HInM.out.below hb8.out) HT.out.1 (Nat.le_refl _) HSB.out)
      have hx8:w8.heap[w6.heap.size]?=some (.cells #[.int .i64 kind,.int .i64 n9,.int .i64 m9,.string ss,.slice o ln cp] 25 (0,0)):=HX7.out w8 (PG.below hb8.out)
      obtain ⟨s0,s1,s2,s3,s4⟩:=cells5c hx8
      clear hs hx8
      go_wp2_with fail
      refine HWt.out.mono ?_
      rintro e w9 ⟨rfl,b9⟩
      have hb9:=hide b9
      have rd9:=hide (rd8.out.below b9)
      clear HWt b9 s0 s1 s2 s3 s4
      obtain ⟨mw,hmw⟩:∃ mw,mw=min (wtT T) 301:=⟨_,rfl⟩
      rw [←hmw]
      have HMw:=hide hmw
      clear hmw
      by_cases hwt:300<mw
      ·have f1:(300:Int)<((mw:Nat):Int):=by omega
       have f2:decide ((300:Int)<((mw:Nat):Int))=true:=decide_eq_true f1
       have f3:decide (300<mw)=true:=decide_eq_true hwt
       have HRR:=hide (HRW.out _ rd9.out.pg)
       have xr:=HRR.out
       obtain ⟨r0',r1',r2',r3',r4'⟩:=cells5c xr
       have z0:=fz5c xr 0
       have z1:=fz5c xr 1
       have z2:=fz5c xr 2
       have z3:=fz5c xr 3
       have z4:=fz5c xr 4
       have HE:Hid ((set5 w9 w.heap.size (.int .i64 0) (.int .i64 0) (.int .i64 0) (.string ⟨#[]⟩) (.slice none 0 0)).heap[w.heap.size]?=some (.cells #[.int .i64 0,.int .i64 0,.int .i64 0,.string ⟨#[]⟩,.slice none 0 0] 25 (0,0))∧CmR w (.returned (.tuple #[.agg #[.int .i64 0,.int .i64 0,.int .i64 0,.string ⟨#[]⟩,.slice none 0 0],.int .i64 7,.int .i64 0])) (set5 w9 w.heap.size (.int .i64 0) (.int .i64 0) (.int .i64 0) (.string ⟨#[]⟩) (.slice none 0 0))):=hide ⟨set5_at xr trivial (.int .i64 0) (.int .i64 0) (.int .i64 0) (.string ⟨#[]⟩) (.slice none 0 0),cm_bad (by decide) (set5_below (HBW.out _ rd9.out.pg) (Nat.le_refl _) _ _ _ _ _)⟩
       unfold set5 at HE
       clear xr
       go_wp2
       generalize (((((w9.setCell ⟨w.heap.size,0,none⟩ (.int .i64 0)).setCell ⟨w.heap.size,1,none⟩ (.int .i64 0)).setCell ⟨w.heap.size,2,none⟩ (.int .i64 0)).setCell ⟨w.heap.size,3,none⟩ (.string ⟨#[]⟩)).setCell ⟨w.heap.size,4,none⟩ (.slice none 0 0))=Wf at HE ⊢
       obtain ⟨u0,u1,u2,u3,u4⟩:=cells5c HE.out.1
       refine bodyPost_ret (v:=.tuple #[.agg #[.int .i64 0,.int .i64 0,.int .i64 0,.string ⟨#[]⟩,.slice none 0 0],.int .i64 7,.int .i64 0]) ?_ rfl HE.out.2
       simp [results,Tryd.results26,go_sem,u0,u1,u2,u3,u4]
      ·have f1:¬ (300:Int)<((mw:Nat):Int):=by omega
       have f2:decide ((300:Int)<((mw:Nat):Int))=false:=decide_eq_false f1
       have f3:decide (300<mw)=false:=decide_eq_false hwt
       have HGood:Hid (Good T):=hide (by
        obtain ⟨g1,g2,g3,g4⟩:=HT.out
        have hg:q.groups=ngT T:=by rw [g3];omega
        exact ⟨OkT.tight T 0 g2 g4 (by omega),g2,HS120.out,by have:=HMw.out;omega,by have:=HQG.out;omega⟩)
       have hx9:w9.heap[w6.heap.size]?=some (.cells #[.int .i64 kind,.int .i64 n9,.int .i64 m9,.string ss,.slice o ln cp] 25 (0,0)):=HX7.out w9 ((PG.below hb8.out).tr (PG.below hb9.out))
       obtain ⟨s0,s1,s2,s3,s4⟩:=cells5c hx9
       have HRR:=hide (HRW.out _ rd9.out.pg)
       have HIn9:Hid (In M w9):=hide ((HInM.out.below hb8.out).below hb9.out)
       have HR6:Hid (w.heap.size<w6.heap.size):=hide (by have:=HB7z.out;omega)
       have HIn10:Hid (In M (set5 w9 w.heap.size (.int .i64 kind) (.int .i64 n9) (.int .i64 m9) (.string ss) (.slice o ln cp))):=hide fun x ob hx=>(set5_other w9 w.heap.size x _ _ _ _ _ (by have:=HMlo.out x ob hx;omega)).trans (HIn9.out x ob hx)
       clear hwt hx9
       have xr:=HRR.out
       obtain ⟨r0',r1',r2',r3',r4'⟩:=cells5c xr
       have z0:=fz5c xr 0
       have z1:=fz5c xr 1
       have z2:=fz5c xr 2
       have z3:=fz5c xr 3
       have z4:=fz5c xr 4
       have HE:Hid ((set5 w9 w.heap.size (.int .i64 kind) (.int .i64 n9) (.int .i64 m9) (.string ss) (.slice o ln cp)).heap[w.heap.size]?=some (.cells #[.int .i64 kind,.int .i64 n9,.int .i64 m9,.string ss,.slice o ln cp] 25 (0,0))∧CmR w (.returned (.tuple #[.agg #[.int .i64 kind,.int .i64 n9,.int .i64 m9,.string ss,.slice o ln cp],.int .i64 0,.int .i64 0])) (set5 w9 w.heap.size (.int .i64 kind) (.int .i64 n9) (.int .i64 m9) (.string ss) (.slice o ln cp))):=hide ⟨set5_at xr trivial (.int .i64 kind) (.int .i64 n9) (.int .i64 m9) (.string ss) (.slice o ln cp),⟨_,_,_,_,_,_,_,0,0,rfl,set5_below (HBW.out _ rd9.out.pg) (Nat.le_refl _) _ _ _ _ _,fun _=>⟨T,M,HGood.out,HT.out.1,HIn10.out,HMlo.out⟩⟩⟩
       unfold set5 at HE
       clear xr
       go_wp2
       generalize (((((w9.setCell ⟨w.heap.size,0,none⟩ (.int .i64 kind)).setCell ⟨w.heap.size,1,none⟩ (.int .i64 n9)).setCell ⟨w.heap.size,2,none⟩ (.int .i64 m9)).setCell ⟨w.heap.size,3,none⟩ (.string ss)).setCell ⟨w.heap.size,4,none⟩ (.slice o ln cp))=Wf at HE ⊢
       obtain ⟨u0,u1,u2,u3,u4⟩:=cells5c HE.out.1
       refine bodyPost_ret (v:=.tuple #[.agg #[.int .i64 kind,.int .i64 n9,.int .i64 m9,.string ss,.slice o ln cp],.int .i64 0,.int .i64 0]) ?_ rfl HE.out.2
       simp [results,Tryd.results26,go_sem,u0,u1,u2,u3,u4]
   ·have k1:(q.code == 0)=false:=by rw [beq_eq_false_iff_ne];exact hc
    have k2:decide (q.code=0)=false:=decide_eq_false hc
    have HCd:=hide hc
    have rd8:=rd7
    clear hc y0 y1 y2 y3 y5 y6 yf1 yf5 yf6 k1 k2
    have HCr:=hide HCd.out
    obtain ⟨y0,y1,y2,y3,y5,y6,yf1,yf5,yf6⟩:=rd8.out.can
    have y4:=rd8.out.pb.cells.2.2.2.2.1
    have k1:(q.code == 0)=false:=by rw [beq_eq_false_iff_ne];exact HCd.out
    have k2:decide (q.code=0)=false:=decide_eq_false HCd.out
    have k3:(q.code != 0)=true:=by simp [HCd.out]
    have xr:=HRW.out _ rd8.out.pg
    obtain ⟨r0',r1',r2',r3',r4'⟩:=cells5c xr
    have z0:=fz5c xr 0
    have z1:=fz5c xr 1
    have z2:=fz5c xr 2
    have z3:=fz5c xr 3
    have z4:=fz5c xr 4
    have HBZ:Hid (∀ W,Below w7.heap.size w7 W→Below w.heap.size w W):=hide fun W hb=>(HBW.out _ rd8.out.pg).trans (hb.mono (HBW.out _ rd8.out.pg).size)
    clear xr
    have hne:w1.heap.size≠w.heap.size:=by have:=HZ1.out;omega
    have hne':w.heap.size≠w1.heap.size:=by have:=HZ1.out;omega
    have HE:Hid ((set5 w7 w.heap.size (.int .i64 0) (.int .i64 0) (.int .i64 0) (.string ⟨#[]⟩) (.slice none 0 0)).drew.heap[w.heap.size]?=some (.cells #[.int .i64 0,.int .i64 0,.int .i64 0,.string ⟨#[]⟩,.slice none 0 0] 25 (0,0))∧CmR w (.returned (.tuple #[.agg #[.int .i64 0,.int .i64 0,.int .i64 0,.string ⟨#[]⟩,.slice none 0 0],.int .i64 q.code,.int .i64 q.place])) (set5 w7 w.heap.size (.int .i64 0) (.int .i64 0) (.int .i64 0) (.string ⟨#[]⟩) (.slice none 0 0)).drew):=hide ⟨set5_at (HRW.out _ rd8.out.pg) trivial _ _ _ _ _,cm_bad HCd.out ((set5_below (HBW.out _ rd8.out.pg) (Nat.le_refl _) _ _ _ _ _).drew)⟩
    unfold set5 at HE
    go_wp2
    go_region
    go_wp2
    generalize (((((w7.setCell ⟨w.heap.size,0,none⟩ (.int .i64 0)).setCell ⟨w.heap.size,1,none⟩ (.int .i64 0)).setCell ⟨w.heap.size,2,none⟩ (.int .i64 0)).setCell ⟨w.heap.size,3,none⟩ (.string ⟨#[]⟩)).setCell ⟨w.heap.size,4,none⟩ (.slice none 0 0)).drew=Wf at HE ⊢
    obtain ⟨u0,u1,u2,u3,u4⟩:=cells5c HE.out.1
    refine bodyPost_ret (v:=.tuple #[.agg #[.int .i64 0,.int .i64 0,.int .i64 0,.string ⟨#[]⟩,.slice none 0 0],.int .i64 q.code,.int .i64 q.place]) ?_ rfl HE.out.2
    simp [results,Tryd.results26,go_sem,u0,u1,u2,u3,u4]
end Go.Proofs.YtfhimmnoipfiaaaDoor.eng

import Derived.Test.YtfhimmnoipfiaaaDoorUPrx
import Derived.Test.YtfhimmnoipfiaaaDoorULaw3
namespace Go.Proofs.YtfhimmnoipfiaaaDoor.eng
open Go.ChangeShapes Go.WideShapes Go.ChangeAt Go.RowKit
open bytes places sets tz rex
set_option linter.unusedVariables false
open pile src letters drw
set_option maxRecDepth 20000 in
set_option maxHeartbeats 8000000 in
theorem rxOf_any (w:World) (ao:Option Addr) (cap:Nat) (xs:List Int) (hl:xs.length≤1048576) (h:RdA w (.slice ao xs.length cap) xs):Calls Tryd.prog 5 #[.slice ao xs.length cap] w (RxDrawn w):=by
 have hBx:Below w.heap.size w (w.alloc (.cells #[.int .i64 0,.int .i64 0,.int .i64 0,.string ⟨#[]⟩,.slice none 0 0] 25)):=(Below.refl _ _).alloc (Nat.le_refl _) _
 obtain ⟨W1,hW1⟩:∃ W1,w.alloc (.cells #[.int .i64 0,.int .i64 0,.int .i64 0,.string ⟨#[]⟩,.slice none 0 0] 25)=W1:=⟨_,rfl⟩
 rw [hW1] at hBx
 have hz1:W1.heap.size=w.heap.size+1:=by rw [←hW1];simp
 have x1:W1.heap[w.heap.size]?=some (.cells #[.int .i64 0,.int .i64 0,.int .i64 0,.string ⟨#[]⟩,.slice none 0 0] 25 (0,0)):=by rw [←hW1];exact heap_alloc_new w _
 have HS:=hide (source_any W1 ao cap xs hl (h.below hBx (Nat.le_refl _)))
 have HX1:=hide x1
 have HB1:=hide hBx
 have HZ:=hide hz1
 clear hBx x1 h hz1
 go_enter Tryd.func5,Tryd.ntmps5
 (try rw [hW1])
 go_wp2_with fail
 refine HS.out.mono ?_
 rintro e w2 ⟨rfl,⟨sd,S2⟩,B2⟩
 have HR:=hide (rx_any w2 W1.heap.size ao cap xs sd S2 S2.lt)
 have HB2:=hide B2
 have HL2:Hid (W1.heap.size<w2.heap.size):=hide S2.lt
 clear HS S2 B2 hW1
 go_wp2_with fail
 refine HR.out.mono ?_
 rintro e w3 ⟨kind,n9,m9,ss,o,ln,cp,T,M,rfl,g1,g2,g3,g4,b3⟩
 have xr:w3.heap[w.heap.size]?=some (.cells #[.int .i64 0,.int .i64 0,.int .i64 0,.string ⟨#[]⟩,.slice none 0 0] 25 (0,0)):=(b3.block _ (by have:=HZ.out;omega)).trans ((HB2.out.block _ (by have:=HZ.out;omega)).trans HX1.out)
 obtain ⟨r0',r1',r2',r3',r4'⟩:=cells5c xr
 have z0:=fz5c xr 0
 have z1:=fz5c xr 1
 have z2:=fz5c xr 2
 have z3:=fz5c xr 3
 have z4:=fz5c xr 4
 have hbw:Below w.heap.size w w3:=(HB1.out.trans (HB2.out.mono HB1.out.size)).trans (b3.mono HB1.out.size)
 have HE:Hid ((set5 w3 w.heap.size (.int .i64 kind) (.int .i64 n9) (.int .i64 m9) (.string ss) (.slice o ln cp)).heap[w.heap.size]?=some (.cells #[.int .i64 kind,.int .i64 n9,.int .i64 m9,.string ss,.slice o ln cp] 25 (0,0))∧RxDrawn w (.returned (.agg #[.int .i64 kind,.int .i64 n9,.int .i64 m9,.string ss,.slice o ln cp])) (set5 w3 w.heap.size (.int .i64 kind) (.int .i64 n9) (.int .i64 m9) (.string ss) (.slice o ln cp))):=hide ⟨set5_at xr trivial (.int .i64 kind) (.int .i64 n9) (.int .i64 m9) (.string ss) (.slice o ln cp),_,T,M,rfl,g1,g2,fun y ob hy=>(set5_other w3 w.heap.size y _ _ _ _ _ (by have:=g4 y ob hy;have:=HL2.out;have:=HZ.out;omega)).trans (g3 y ob hy),set5_belowd hbw (Nat.le_refl _) _ _ _ _ _⟩
 unfold set5 at HE
 clear xr hbw g1 g2 g3 g4 b3 HR
 go_wp2
 generalize (((((w3.setCell ⟨w.heap.size,0,none⟩ (.int .i64 kind)).setCell ⟨w.heap.size,1,none⟩ (.int .i64 n9)).setCell ⟨w.heap.size,2,none⟩ (.int .i64 m9)).setCell ⟨w.heap.size,3,none⟩ (.string ss)).setCell ⟨w.heap.size,4,none⟩ (.slice o ln cp))=Wf at HE ⊢
 obtain ⟨u0,u1,u2,u3,u4⟩:=cells5c HE.out.1
 refine bodyPost_ret (v:=.agg #[.int .i64 kind,.int .i64 n9,.int .i64 m9,.string ss,.slice o ln cp]) ?_ rfl HE.out.2
 simp [results,Tryd.results5,go_sem,u0,u1,u2,u3,u4]
theorem wordB_byte {y:Int} (h:WordB y):0≤y∧y≤255:=by
 unfold WordB at h
 omega
theorem woOf_any (w:World) (ao:Option Addr) (cap:Nat) (xs:List Int) (hl:xs.length≤1048576) (h:RdA w (.slice ao xs.length cap) xs) (W:World) (hb:Below w.heap.size w W):Calls Tryd.prog 6 #[.slice ao xs.length cap] W (WoDrawn W) :=
 (wordsOf_any W ao cap xs hl (h.below hb (Nat.le_refl _))).mono fun e w' ⟨ys,h1,h2,h3,h4⟩=>⟨ys,h1,by omega,fun t ht=>wordB_byte (h3 t ht),h4⟩
end Go.Proofs.YtfhimmnoipfiaaaDoor.eng

import Derived.Test.YtfhimmnoipfiaaaDoorUPbs
import Derived.Deep.QuietTactic
import Derived.BigQuiet
namespace Go.Proofs.YtfhimmnoipfiaaaDoor.eng
open Go.ChangeShapes Go.WideShapes Go.ChangeAt Go.RowKit
open bytes places sets tz rex
set_option linter.unusedVariables false
open pile
def meaB (b L:Nat) (w:World):Nat:=match w.cell? ⟨b,3,none⟩ with
 | some (.int _ c)=>if c=0 then L+1-(match w.cell? ⟨b,1,none⟩ with | some (.int _ x)=>x.toNat | _=>0) else 0
 | _=>0
theorem meaB_eq {q:Pq} {b L:Nat} {w:World} (h:PB q b w):meaB b L w=if q.code=0 then L+1-q.at_ else 0:=by
 unfold meaB
 rw [h.cells.2.2.2.1,h.cells.2.1]
 simp
structure BkS (p:Pq) (b D:Nat) (W:World) (q:Pq) (w:World):Prop where
 ms:Ms b D W q w
 nx:Nx p q
 gr:q.groups=p.groups
 le:q.at_≤p.ts.length
 far:p.at_<q.at_
theorem BkS.next {p q:Pq} {b D:Nat} {W w w':World} {e:Ending} (h:BkS p b D W q w) (hm:MeR q b D W e w') (hc:q.code=0):∃ r,BkS p b D W r w'∧meaB b p.ts.length w'<meaB b p.ts.length w:=by
 obtain ⟨_,r,h1,h2,h3,h4,h5⟩:=hm
 have ht:=h.nx.ts
 rw [ht] at h4
 have hf:=h.far
 have h6:=h2.at_
 refine ⟨r,⟨h1,h.nx.tr h2,h3.trans h.gr,h4,by omega⟩,?_⟩
 rw [meaB_eq h.ms.rd.pb,meaB_eq h1.rd.pb,if_pos hc]
 have hl:=h.le
 split
 ·rename_i hr;have:=h5 hr;omega
 ·omega
structure StS (s:List Int) (c:Nat):Prop where
 pw:s.Pairwise (· < ·)
 lt:∀ x∈s,x<(c:Int)
 ge:∀ x∈s,0≤x∧x≤255
 len:s.length≤c
theorem StS.up {s:List Int} {c:Nat} (h:StS s c):StS s (c+1):=⟨h.pw,fun x hx=>by have:=h.lt x hx;omega,h.ge,by have:=h.len;omega⟩
theorem StS.add {s:List Int} {c:Nat} (h:StS s c) (hc:c<256):StS (s++[(c:Int)]) (c+1):=by
 refine ⟨List.pairwise_append.2 ⟨h.pw,List.pairwise_singleton _ _,fun x hx y hy => ?_⟩,fun x hx => ?_,fun x hx => ?_,by have:=h.len;simp;omega⟩
 ·rw [List.mem_singleton] at hy
  subst hy
  exact h.lt x hx
 ·rcases List.mem_append.1 hx with hx | hx
  ·have:=h.lt x hx;omega
  ·rw [List.mem_singleton] at hx;omega
 ·rcases List.mem_append.1 hx with hx | hx
  ·exact h.ge x hx
  ·rw [List.mem_singleton] at hx;omega
theorem own_slice {w:World} {base:Nat} {v:Value} {s:List Int} (h:bytes.Own w base v s):∃ ao cap,v=.slice ao s.length cap:=by
 obtain ⟨ao,cap,h1,_⟩:=h.rd
 exact ⟨ao,cap,h1⟩
theorem bool_new (w:World):BoolRow (w.alloc (.cells (madeCells #[.bool false] 256) 4)) w.heap.size:=by
 refine ⟨_,heap_alloc_new w _,by rw [size_madeCells],fun i hi=>⟨false,?_⟩⟩
 rw [made_at _ _ _ (by omega)]
 simp [Nat.mod_one]
structure QF (p q:Pq):Prop where
 far:p.at_+1≤q.at_
 le:q.at_≤p.ts.length+1
 gr:q.groups=p.groups
 nx:Nx p q
 ok:q.code=0→q.at_≤p.ts.length
set_option maxRecDepth 10000 in
set_option maxHeartbeats 8000000 in
theorem bracket_any (p:Pq) (b:Nat) (W:World) (h:PB p b W) (hk:Okp p) (hc:p.code=0) (hl:p.at_<p.ts.length) :
  Calls Tryd.prog 94 #[.pointer (some ⟨b,0,none⟩)] W (TrR 1 p b W):=by
 obtain ⟨W1,hW1,hbox⟩:=box_new W
 obtain ⟨hBx,hRZ⟩:=hbox b h.lt
 have HBX:=hide hBx
 have HRZ:=hide hRZ
 have rd0:Hid (Rd b W1 p W1):=hide (Rd.refl (h.below hBx.bel))
 have HOK:=hide hk
 have HC0:=hide hc
 have hL9:Hid (p.ts.length≤200∧p.at_<p.ts.length∧p.open_≤p.at_∧p.groups≤p.at_):=hide ⟨hk.len,hl,hk.op,hk.gr⟩
 obtain ⟨W2,hW2⟩:∃ W2,W1.alloc (.cells (madeCells #[.bool false] 256) 4)=W2:=⟨_,rfl⟩
 have hz2:W2.heap.size=W1.heap.size+1:=by rw [←hW2];simp
 have ms2:Ms b W1.heap.size W1 p W2:=⟨rd0.out.below (by rw [←hW2];exact (Below.refl _ _).alloc (Nat.le_refl _) _),by rw [←hW2];exact bool_new W1,Nat.le_refl _,rd0.out.pb.lt⟩
 have k125:∀ W:World,(Instr.makeSlice 125 (.int .i64 256) (.int .i64 256)).run Tryd.prog W=.ok (.slice (some ⟨W.heap.size,0,none⟩) 256 256) (W.alloc (.cells (madeCells #[.bool false] 256) 4)):=fun W=>make125 256 (by omega) W
 have HSZ:Hid (W1.heap.size+1≤W2.heap.size∧b<W1.heap.size+1):=hide ⟨by omega,by have:=rd0.out.pb.lt;omega⟩
 obtain ⟨q1,hq1⟩:∃ q1:Pq,q1={ p with at_:=p.at_+1 }:=⟨_,rfl⟩
 have hw1:IntKind.i64.wrap ((p.at_:Int)+1)=(q1.at_:Int):=by rw [IntKind.wrap_i64,hq1];show _=((p.at_+1:Nat):Int);have:=hL9.out;omega
 obtain ⟨V,hV⟩:∃ V,W2.setCell ⟨b,1,none⟩ (.int .i64 (q1.at_:Int))=V:=⟨_,rfl⟩
 have ms3:Ms b W1.heap.size W1 q1 V:=by rw [←hV,hq1];exact ms2.setAt (p.at_+1)
 have HB1:Hid (BkS p b W1.heap.size W1 q1 V):=hide ⟨ms3,by rw [hq1];exact Nx.at p (Nat.le_succ _),by rw [hq1],by rw [hq1];exact hl,by rw [hq1];exact Nat.lt_succ_self _⟩
 have HIs:=hide (ms3.is (by rw [HB1.out.nx.ts];have:=hL9.out;omega) (by have:=HB1.out.le;have:=hL9.out;omega) ⟨#[94]⟩ (by decide))
 obtain ⟨y0,y1,y2,y3,y5,y6,yf1,yf5,yf6⟩:=ms2.rd.can
 clear hbox hBx hRZ h hk hq1 ms2 ms3 hz2
 go_enter Tryd.func94,Tryd.ntmps94
 (try rw [hW1])
 cases hB:q1.is ⟨#[94]⟩ with
 | true =>
  rw [hB] at HIs
  have HBt:=hide (is_true hB).2
  clear hB
  go_wp2_with fail
  refine HIs.out.mono ?_
  rintro e w4 ⟨rfl,ms4'⟩
  obtain ⟨q2,hq2⟩:∃ q2:Pq,q2={ q1 with at_:=q1.at_+1 }:=⟨_,rfl⟩
  have hw2:IntKind.i64.wrap ((q1.at_:Int)+1)=(q2.at_:Int):=by rw [IntKind.wrap_i64,hq2];show _=((q1.at_+1:Nat):Int);have:=HB1.out.le;have:=hL9.out;omega
  obtain ⟨w5,hw5⟩:∃ w5,w4.setCell ⟨b,1,none⟩ (.int .i64 (q2.at_:Int))=w5:=⟨_,rfl⟩
  have HB0:Hid (BkS p b W1.heap.size W1 q2 w5):=hide ⟨by rw [←hw5,hq2];exact ms4'.setAt (q1.at_+1),by rw [hq2];exact HB1.out.nx.tr (Nx.at q1 (Nat.le_succ _)),by rw [hq2];exact HB1.out.gr,by rw [hq2];show q1.at_+1≤_;have h:=HBt.out;rw [HB1.out.nx.ts] at h;exact h,by rw [hq2];show _<q1.at_+1;have:=HB1.out.far;omega⟩
  clear y0 y1 y2 y3 y5 y6 yf1 yf5 yf6 hq2 HIs
  obtain ⟨a0,a1,a2,a3,a5,a6,af1,af5,af6⟩:=ms4'.rd.can
  clear ms4'
  go_wp2
  go_loopw [5] (fun v5 wr=>∃ (fs:Bool) (q:Pq),v5=.bool fs∧Hid (BkS p b W1.heap.size W1 q wr)) (fun _ wr=>meaB b p.ts.length wr)
  case atStart=>exact ⟨true,_,rfl,hide HB0.out⟩
  case round =>
   obtain ⟨fs,q,rfl,HX⟩:=hrel
   clear a0 a1 a2 a3 a5 a6 af1 af5 af6
   obtain ⟨z0,z1,z2,z3,z5,z6,zf1,zf5,zf6⟩:=HX.out.ms.rd.can
   by_cases h0:q.code=0
   ·rw [h0] at z3
    have HC0q:=hide h0
    clear h0
    cases fs with
    | true =>
     have MSS:Hid (Ms b W1.heap.size W1 q wr):=hide HX.out.ms
     have HM:=hide (member_any q b W1.heap.size W1 wr MSS.out (by rw [HX.out.nx.ts];exact hL9.out.1) (by rw [HX.out.nx.ts];exact HOK.out.bytes) (by rw [HX.out.nx.ts];exact HX.out.le))
     go_wp2_with fail
     refine HM.out.mono ?_
     rintro e w7 hm
     have HMM:=hide hm
     obtain ⟨rfl,_⟩:=hm
     have HNX:=hide (BkS.next (BkS.mk MSS.out HX.out.nx HX.out.gr HX.out.le HX.out.far) HMM.out HC0q.out)
     go_wp2
     go_roundw
     case rel=>obtain ⟨r,h1,h2⟩:=HNX.out;exact ⟨false,r,rfl,hide h1⟩
     case measure=>obtain ⟨r,h1,h2⟩:=HNX.out;exact h2
    | false =>
     have HIs:=hide (HX.out.ms.is (by rw [HX.out.nx.ts];have:=hL9.out;omega) (by have:=HX.out.le;have:=hL9.out;omega) ⟨#[93]⟩ (by decide))
     cases hB:q.is ⟨#[93]⟩ with
     | true =>
      rw [hB] at HIs
      have HBt:=hide (is_true hB).2
      clear hB
      go_wp2_with fail
      refine HIs.out.mono ?_
      rintro e wi ⟨rfl,msi'⟩
      have msi:=hide msi'
      clear z0 z1 z2 z3 z5 z6 zf1 zf5 zf6 HIs
      obtain ⟨z0,z1,z2,z3,z5,z6,zf1,zf5,zf6⟩:=msi'.rd.can
      clear msi'
      obtain ⟨q3,hq3⟩:∃ q3:Pq,q3={ q with at_:=q.at_+1 }:=⟨_,rfl⟩
      have hw3:IntKind.i64.wrap ((q.at_:Int)+1)=(q3.at_:Int):=by rw [IntKind.wrap_i64,hq3];show _=((q.at_+1:Nat):Int);have:=HX.out.le;have:=hL9.out;omega
      have HQ3:Hid (QF p q3):=hide (by
       rw [hq3]
       exact ⟨by show _≤q.at_+1;have:=HX.out.far;omega,by show q.at_+1≤_;have:=HX.out.le;omega,HX.out.gr,HX.out.nx.tr (Nx.at q (Nat.le_succ _)),fun _=>by have h:=HBt.out;rw [HX.out.nx.ts] at h;exact h⟩)
      obtain ⟨w6,hw6⟩:∃ w6,wi.setCell ⟨b,1,none⟩ (.int .i64 (q3.at_:Int))=w6:=⟨_,rfl⟩
      have ms3:Hid (Ms b W1.heap.size W1 q3 w6):=hide (by rw [←hw6,hq3];exact msi.out.setAt (q.at_+1))
      obtain ⟨k4,hk4⟩:∃ k4,k4=q3.at_-1:=⟨_,rfl⟩
      have HK4:Hid (k4+1=q3.at_):=hide (by have:=HQ3.out.far;omega)
      have HS3:Hid (W1.heap.size+1≤w6.heap.size):=hide (by have:=ms3.out.row.lt;omega)
      clear hq3 hk4
      go_wp2
      go_loopw [6,7] (fun v6 v7 wr=>∃ (s:List Int) (ao:Option Addr) (cap c:Nat),v6=.slice ao s.length cap∧c≤256∧v7=.int .i64 (c:Int)∧Hid (bytes.Own wr (W1.heap.size+1) (.slice ao s.length cap) s∧Ms b W1.heap.size W1 q3 wr∧StS s c)) (fun _ v7 _=>256-(intOf v7).toNat)
      case atStart=>exact ⟨[],_,_,0,rfl,by omega,rfl,hide ⟨⟨fun x hx=>(by cases hx),rfl,.inr ⟨_,0,#[],rfl,HS3.out,heap_alloc_new _ _,Nat.le_refl _,by decide,rfl,rfl⟩⟩,ms3.out.alloc _,⟨List.Pairwise.nil,fun x hx=>(by cases hx),fun x hx=>(by cases hx),Nat.le_refl _⟩⟩⟩
      case round =>
       obtain ⟨s,ao,cap,c,rfl,hc,rfl,HY⟩:=hrel
       by_cases hcl:c<256
       ·have c1:(c:Int)<256:=by omega
        have cw:IntKind.u8.wrap (c:Int)=(c:Int):=by rw [IntKind.wrap_u8];omega
        have cw1:IntKind.i64.wrap ((c:Int)+1)=((c+1:Nat):Int):=by rw [IntKind.wrap_i64];omega
        obtain ⟨x,hx⟩:=HY.out.2.1.row.at_ hcl
        cases x with
        | true =>
         go_wp2
         go_roundw
         case rel=>exact ⟨s,ao,cap,c+1,rfl,by omega,by simp,hide ⟨HY.out.1,HY.out.2.1,HY.out.2.2.up⟩⟩
         case measure=>simp [intOf];omega
        | false =>
         have HL:Hid (s.length+[(c:Int)].length≤140737488355328):=hide (by have hle:=HY.out.2.2.len;simp;omega)
         have HR:=hide (one_rd wr (c:Int) (by omega) (by omega))
         have HO:=hide (HY.out.1.below ((Below.refl wr.heap.size wr).alloc (Nat.le_refl _) (.cells #[.int .u8 (c:Int)] 5)) (Nat.le_refl _))
         have HN:Hid (∀ (v':Value) (w':World),bytes.Own w' (W1.heap.size+1) v' (s++[(c:Int)])→(wr.alloc (.cells #[.int .u8 (c:Int)] 5)).grownBy w' (Value.slice ao s.length cap).ownBlock→∃ ao' cap',v'=.slice ao' (s++[(c:Int)]).length cap'∧bytes.Own w' (W1.heap.size+1) (.slice ao' (s++[(c:Int)]).length cap') (s++[(c:Int)])∧Ms b W1.heap.size W1 q3 w'∧StS (s++[(c:Int)]) (c+1)):=hide fun v' w' ho hg=>by
          obtain ⟨ao',cap',rfl⟩:=own_slice ho
          refine ⟨ao',cap',rfl,ho,(HY.out.2.1.alloc _).app hg fun k hk => ?_,HY.out.2.2.add hcl⟩
          have:=(HY.out.1.lt k hk).1
          omega
         have HZ:Hid (W1.heap.size+1≤(wr.alloc (.cells #[.int .u8 (c:Int)] 5)).heap.size):=hide (by have:=HY.out.2.1.row.lt;simp;omega)
         go_wp2_with (at_builtin;refine wpList_append_rd _ rfl _ _ 22 rfl Tryd.underlying22 info5 (W1.heap.size+1) _ s rfl HO.out _ [(c:Int)] rfl HR.out HL.out HZ.out ?_;intro v' w2 hown hgrow;obtain ⟨ao',cap',rfl,HX2⟩:=HN.out v' w2 hown hgrow)
         go_roundw
         case rel=>exact ⟨s++[(c:Int)],ao',cap',c+1,by simp,by omega,by simp,hide HX2⟩
         case measure=>simp [intOf];omega
       ·obtain rfl:c=256:=by omega
        obtain ⟨z0,z1,z2,z3,z5,z6,zf1,zf5,zf6⟩:=HY.out.2.1.rd.can
        have hstr:=run_str (pile.Own.rdA HY.out.1)
        have hmw:IntKind.i64.wrap ((q3.at_:Int)-1)=(k4:Int):=by rw [IntKind.wrap_i64];have:=HK4.out;have:=HQ3.out.le;have:=hL9.out;omega
        by_cases h0:q3.code=0
        ·rw [h0] at z3
         by_cases hsl:s=[]
         ·subst hsl
          have hf0:=(Rd.refl HY.out.2.1.rd.pb).failx (c:=4) (by decide) (k4:Int)
          have HFx:=hide hf0
          have HROW:=hide HY.out.1
          clear h0 hf0
          go_wp2_with fail
          refine HFx.out.mono ?_
          rintro e wf ⟨qf,rfl,rdf',kc,kt,ka,ke,kg,ko⟩
          have msf:=hide (HY.out.2.1.grown rdf')
          have hstr:=run_str (pile.Own.rdA (own_keep HROW.out rdf'.pg HSZ.out.2))
          rw [List.length_nil] at hstr
          have HCf:=hide kc
          have HNf:Hid (Nx p qf):=hide ⟨kt.trans HQ3.out.nx.ts,ke.trans HQ3.out.nx.ere,ko.trans HQ3.out.nx.op,by rw [ka];exact HQ3.out.nx.at_,by rw [kg];exact HQ3.out.nx.gr,fun e=>absurd e kc⟩
          have HAf:Hid (p.at_+1≤qf.at_∧qf.at_+2*p.open_≤3*p.ts.length+10∧qf.groups≤qf.at_):=hide (by rw [ka,kg,HQ3.out.gr];have h1:=HQ3.out.far;have h2:=HQ3.out.le;have h3:=hL9.out;exact ⟨by omega,by omega,by omega⟩)
          clear rdf' kc kt ka ke kg ko z0 z1 z2 z3 z5 z6 zf1 zf5 zf6 HFx
          have xr:=HRZ.out _ msf.out.rd.pg
          obtain ⟨r0',r1',r2',r3',r4'⟩:=cells5c xr
          have z0:=fz5c xr 0
          have z1:=fz5c xr 1
          have z2:=fz5c xr 2
          have z3:=fz5c xr 3
          have z4:=fz5c xr 4
          have HE:Hid ((set5 wf W.heap.size (.int .i64 3) (.int .i64 0) (.int .i64 0) (.string (strOfNums [])) (.slice none 0 0)).heap[W.heap.size]?=some (.cells #[.int .i64 3,.int .i64 0,.int .i64 0,.string (strOfNums []),.slice none 0 0] 25 (0,0))∧TrP 1 p b W #[.int .i64 3,.int .i64 0,.int .i64 0,.string (strOfNums []),.slice none 0 0] qf (set5 wf W.heap.size (.int .i64 3) (.int .i64 0) (.int .i64 0) (.string (strOfNums [])) (.slice none 0 0))):=hide ⟨set5_at xr trivial (.int .i64 3) (.int .i64 0) (.int .i64 0) (.string (strOfNums [])) (.slice none 0 0),(TrP.bad (s:=1) (p:=p) (W:=W1) (q:=qf) msf.out.rd HNf.out HCf.out HAf.out.1 HAf.out.2.1 HAf.out.2.2).up HBX.out _ _ _ _ _⟩
          unfold set5 at HE
          clear xr
          go_wp2
          generalize (((((wf.setCell ⟨W.heap.size,0,none⟩ (.int .i64 3)).setCell ⟨W.heap.size,1,none⟩ (.int .i64 0)).setCell ⟨W.heap.size,2,none⟩ (.int .i64 0)).setCell ⟨W.heap.size,3,none⟩ (.string (strOfNums []))).setCell ⟨W.heap.size,4,none⟩ (.slice none 0 0))=Wf at HE ⊢
          obtain ⟨u0,u1,u2,u3,u4⟩:=cells5c HE.out.1
          refine bodyPost_ret (v:=.agg #[.int .i64 3,.int .i64 0,.int .i64 0,.string (strOfNums []),.slice none 0 0]) ?_ rfl ⟨_,_,_,_,_,_,_,qf,rfl,HE.out.2⟩
          simp [results,Tryd.results94,go_sem,u0,u1,u2,u3,u4]
         ·have s1:((s.length:Int) == 0)=false:=by rw [beq_eq_false_iff_ne];have:s.length≠0:=fun e=>hsl (List.length_eq_zero_iff.1 e);omega
          have s2:decide ((s.length:Int)=0)=false:=decide_eq_false (by have:s.length≠0:=fun e=>hsl (List.length_eq_zero_iff.1 e);omega)
          have s3:(s.length == 0)=false:=by rw [beq_eq_false_iff_ne];exact fun e=>hsl (List.length_eq_zero_iff.1 e)
          have s4:decide (s=[])=false:=decide_eq_false hsl
          have s5:¬ s=[]:=hsl
          have s6:(s == [])=false:=by rw [beq_eq_false_iff_ne];exact hsl
          have s7:s.isEmpty=false:=by cases s with | nil=>exact absurd rfl hsl | cons a l=>rfl
          have HTr:Hid (TrP 1 p b W1 (rxV 3 0 0 (strOfNums s) nilV) q3 wr):=hide (TrP.leaf HY.out.2.1.rd HQ3.out.nx HQ3.out.gr HQ3.out.far (HQ3.out.ok h0) HOK.out (TreeAt.set _ _ _ hsl HY.out.2.2.ge HY.out.2.2.pw))
          have HPg:=hide HY.out.2.1.rd.pg
          clear h0 HY
          have xr:=HRZ.out _ HPg.out
          obtain ⟨r0',r1',r2',r3',r4'⟩:=cells5c xr
          have z0:=fz5c xr 0
          have z1:=fz5c xr 1
          have z2:=fz5c xr 2
          have z3:=fz5c xr 3
          have z4:=fz5c xr 4
          have HE:Hid ((set5 wr W.heap.size (.int .i64 3) (.int .i64 0) (.int .i64 0) (.string (strOfNums s)) (.slice none 0 0)).heap[W.heap.size]?=some (.cells #[.int .i64 3,.int .i64 0,.int .i64 0,.string (strOfNums s),.slice none 0 0] 25 (0,0))∧TrP 1 p b W #[.int .i64 3,.int .i64 0,.int .i64 0,.string (strOfNums s),.slice none 0 0] q3 (set5 wr W.heap.size (.int .i64 3) (.int .i64 0) (.int .i64 0) (.string (strOfNums s)) (.slice none 0 0))):=hide ⟨set5_at xr trivial (.int .i64 3) (.int .i64 0) (.int .i64 0) (.string (strOfNums s)) (.slice none 0 0),HTr.out.up HBX.out _ _ _ _ _⟩
          unfold set5 at HE
          clear xr
          go_wp2
          generalize (((((wr.setCell ⟨W.heap.size,0,none⟩ (.int .i64 3)).setCell ⟨W.heap.size,1,none⟩ (.int .i64 0)).setCell ⟨W.heap.size,2,none⟩ (.int .i64 0)).setCell ⟨W.heap.size,3,none⟩ (.string (strOfNums s))).setCell ⟨W.heap.size,4,none⟩ (.slice none 0 0))=Wf at HE ⊢
          obtain ⟨u0,u1,u2,u3,u4⟩:=cells5c HE.out.1
          refine bodyPost_ret (v:=.agg #[.int .i64 3,.int .i64 0,.int .i64 0,.string (strOfNums s),.slice none 0 0]) ?_ rfl ⟨_,_,_,_,_,_,_,q3,rfl,HE.out.2⟩
          simp [results,Tryd.results94,go_sem,u0,u1,u2,u3,u4]
        ·have k1:(q3.code == 0)=false:=by simpa using h0
         have k2:decide (q3.code=0)=false:=decide_eq_false h0
         have HTr:Hid (TrP 1 p b W1 (rxV 3 0 0 (strOfNums s) nilV) q3 wr):=hide (TrP.bad HY.out.2.1.rd HQ3.out.nx h0 HQ3.out.far (by have h1:=HQ3.out.le;have h3:=hL9.out;omega) (by rw [HQ3.out.gr];have h1:=HQ3.out.far;have h3:=hL9.out;omega))
         have HPg:=hide HY.out.2.1.rd.pg
         clear h0 HY
         have xr:=HRZ.out _ HPg.out
         obtain ⟨r0',r1',r2',r3',r4'⟩:=cells5c xr
         have z0:=fz5c xr 0
         have z1:=fz5c xr 1
         have z2:=fz5c xr 2
         have z3:=fz5c xr 3
         have z4:=fz5c xr 4
         have HE:Hid ((set5 wr W.heap.size (.int .i64 3) (.int .i64 0) (.int .i64 0) (.string (strOfNums s)) (.slice none 0 0)).heap[W.heap.size]?=some (.cells #[.int .i64 3,.int .i64 0,.int .i64 0,.string (strOfNums s),.slice none 0 0] 25 (0,0))∧TrP 1 p b W #[.int .i64 3,.int .i64 0,.int .i64 0,.string (strOfNums s),.slice none 0 0] q3 (set5 wr W.heap.size (.int .i64 3) (.int .i64 0) (.int .i64 0) (.string (strOfNums s)) (.slice none 0 0))):=hide ⟨set5_at xr trivial (.int .i64 3) (.int .i64 0) (.int .i64 0) (.string (strOfNums s)) (.slice none 0 0),HTr.out.up HBX.out _ _ _ _ _⟩
         unfold set5 at HE
         clear xr
         go_wp2
         generalize (((((wr.setCell ⟨W.heap.size,0,none⟩ (.int .i64 3)).setCell ⟨W.heap.size,1,none⟩ (.int .i64 0)).setCell ⟨W.heap.size,2,none⟩ (.int .i64 0)).setCell ⟨W.heap.size,3,none⟩ (.string (strOfNums s))).setCell ⟨W.heap.size,4,none⟩ (.slice none 0 0))=Wf at HE ⊢
         obtain ⟨u0,u1,u2,u3,u4⟩:=cells5c HE.out.1
         refine bodyPost_ret (v:=.agg #[.int .i64 3,.int .i64 0,.int .i64 0,.string (strOfNums s),.slice none 0 0]) ?_ rfl ⟨_,_,_,_,_,_,_,q3,rfl,HE.out.2⟩
         simp [results,Tryd.results94,go_sem,u0,u1,u2,u3,u4]
     | false =>
      rw [hB] at HIs
      clear hB
      go_wp2_with fail
      refine HIs.out.mono ?_
      rintro e wi ⟨rfl,msi'⟩
      have HMe:Hid (meaB b p.ts.length wi=meaB b p.ts.length wr):=hide (by rw [meaB_eq msi'.rd.pb,meaB_eq HX.out.ms.rd.pb])
      have MSS:Hid (Ms b W1.heap.size W1 q wi):=hide msi'
      clear msi' HIs z0 z1 z2 z3 z5 z6 zf1 zf5 zf6
      have HM:=hide (member_any q b W1.heap.size W1 wi MSS.out (by rw [HX.out.nx.ts];exact hL9.out.1) (by rw [HX.out.nx.ts];exact HOK.out.bytes) (by rw [HX.out.nx.ts];exact HX.out.le))
      go_wp2_with fail
      refine HM.out.mono ?_
      rintro e w7 hm
      have HMM:=hide hm
      obtain ⟨rfl,_⟩:=hm
      have HNX:=hide (BkS.next (BkS.mk MSS.out HX.out.nx HX.out.gr HX.out.le HX.out.far) HMM.out HC0q.out)
      go_wp2
      go_roundw
      case rel=>obtain ⟨r,h1,h2⟩:=HNX.out;exact ⟨false,r,rfl,hide h1⟩
      case measure=>obtain ⟨r,h1,h2⟩:=HNX.out;exact (by rw [HMe.out] at h2;exact h2)
   ·have k1:(q.code == 0)=false:=by simpa using h0
    have k2:decide (q.code=0)=false:=decide_eq_false h0
    have ms0:=hide HX.out.ms
    obtain ⟨q3,hq3⟩:∃ q3:Pq,q3={ q with at_:=q.at_+1 }:=⟨_,rfl⟩
    have hw3:IntKind.i64.wrap ((q.at_:Int)+1)=(q3.at_:Int):=by rw [IntKind.wrap_i64,hq3];show _=((q.at_+1:Nat):Int);have:=HX.out.le;have:=hL9.out;omega
    have HQ3:Hid (QF p q3):=hide (by
     rw [hq3]
     exact ⟨by show _≤q.at_+1;have:=HX.out.far;omega,by show q.at_+1≤_;have:=HX.out.le;omega,HX.out.gr,HX.out.nx.tr (Nx.at q (Nat.le_succ _)),fun e=>absurd e h0⟩)
    obtain ⟨w6,hw6⟩:∃ w6,wr.setCell ⟨b,1,none⟩ (.int .i64 (q3.at_:Int))=w6:=⟨_,rfl⟩
    have ms3:Hid (Ms b W1.heap.size W1 q3 w6):=hide (by rw [←hw6,hq3];exact ms0.out.setAt (q.at_+1))
    obtain ⟨k4,hk4⟩:∃ k4,k4=q3.at_-1:=⟨_,rfl⟩
    have HK4:Hid (k4+1=q3.at_):=hide (by have:=HQ3.out.far;omega)
    have HS3:Hid (W1.heap.size+1≤w6.heap.size):=hide (by have:=ms3.out.row.lt;omega)
    clear hq3 hk4
    clear h0
    go_wp2
    go_loopw [6,7] (fun v6 v7 wr=>∃ (s:List Int) (ao:Option Addr) (cap c:Nat),v6=.slice ao s.length cap∧c≤256∧v7=.int .i64 (c:Int)∧Hid (bytes.Own wr (W1.heap.size+1) (.slice ao s.length cap) s∧Ms b W1.heap.size W1 q3 wr∧StS s c)) (fun _ v7 _=>256-(intOf v7).toNat)
    case atStart=>exact ⟨[],_,_,0,rfl,by omega,rfl,hide ⟨⟨fun x hx=>(by cases hx),rfl,.inr ⟨_,0,#[],rfl,HS3.out,heap_alloc_new _ _,Nat.le_refl _,by decide,rfl,rfl⟩⟩,ms3.out.alloc _,⟨List.Pairwise.nil,fun x hx=>(by cases hx),fun x hx=>(by cases hx),Nat.le_refl _⟩⟩⟩
    case round =>
     obtain ⟨s,ao,cap,c,rfl,hc,rfl,HY⟩:=hrel
     by_cases hcl:c<256
     ·have c1:(c:Int)<256:=by omega
      have cw:IntKind.u8.wrap (c:Int)=(c:Int):=by rw [IntKind.wrap_u8];omega
      have cw1:IntKind.i64.wrap ((c:Int)+1)=((c+1:Nat):Int):=by rw [IntKind.wrap_i64];omega
      obtain ⟨x,hx⟩:=HY.out.2.1.row.at_ hcl
      cases x with
      | true =>
       go_wp2
       go_roundw
       case rel=>exact ⟨s,ao,cap,c+1,rfl,by omega,by simp,hide ⟨HY.out.1,HY.out.2.1,HY.out.2.2.up⟩⟩
       case measure=>simp [intOf];omega
      | false =>
       have HL:Hid (s.length+[(c:Int)].length≤140737488355328):=hide (by have hle:=HY.out.2.2.len;simp;omega)
       have HR:=hide (one_rd wr (c:Int) (by omega) (by omega))
       have HO:=hide (HY.out.1.below ((Below.refl wr.heap.size wr).alloc (Nat.le_refl _) (.cells #[.int .u8 (c:Int)] 5)) (Nat.le_refl _))
       have HN:Hid (∀ (v':Value) (w':World),bytes.Own w' (W1.heap.size+1) v' (s++[(c:Int)])→(wr.alloc (.cells #[.int .u8 (c:Int)] 5)).grownBy w' (Value.slice ao s.length cap).ownBlock→∃ ao' cap',v'=.slice ao' (s++[(c:Int)]).length cap'∧bytes.Own w' (W1.heap.size+1) (.slice ao' (s++[(c:Int)]).length cap') (s++[(c:Int)])∧Ms b W1.heap.size W1 q3 w'∧StS (s++[(c:Int)]) (c+1)):=hide fun v' w' ho hg=>by
        obtain ⟨ao',cap',rfl⟩:=own_slice ho
        refine ⟨ao',cap',rfl,ho,(HY.out.2.1.alloc _).app hg fun k hk => ?_,HY.out.2.2.add hcl⟩
        have:=(HY.out.1.lt k hk).1
        omega
       have HZ:Hid (W1.heap.size+1≤(wr.alloc (.cells #[.int .u8 (c:Int)] 5)).heap.size):=hide (by have:=HY.out.2.1.row.lt;simp;omega)
       go_wp2_with (at_builtin;refine wpList_append_rd _ rfl _ _ 22 rfl Tryd.underlying22 info5 (W1.heap.size+1) _ s rfl HO.out _ [(c:Int)] rfl HR.out HL.out HZ.out ?_;intro v' w2 hown hgrow;obtain ⟨ao',cap',rfl,HX2⟩:=HN.out v' w2 hown hgrow)
       go_roundw
       case rel=>exact ⟨s++[(c:Int)],ao',cap',c+1,by simp,by omega,by simp,hide HX2⟩
       case measure=>simp [intOf];omega
     ·obtain rfl:c=256:=by omega
      obtain ⟨z0,z1,z2,z3,z5,z6,zf1,zf5,zf6⟩:=HY.out.2.1.rd.can
      have hstr:=run_str (pile.Own.rdA HY.out.1)
      have hmw:IntKind.i64.wrap ((q3.at_:Int)-1)=(k4:Int):=by rw [IntKind.wrap_i64];have:=HK4.out;have:=HQ3.out.le;have:=hL9.out;omega
      by_cases h0:q3.code=0
      ·rw [h0] at z3
       by_cases hsl:s=[]
       ·subst hsl
        have hf0:=(Rd.refl HY.out.2.1.rd.pb).failx (c:=4) (by decide) (k4:Int)
        have HFx:=hide hf0
        have HROW:=hide HY.out.1
        clear h0 hf0
        go_wp2_with fail
        refine HFx.out.mono ?_
        rintro e wf ⟨qf,rfl,rdf',kc,kt,ka,ke,kg,ko⟩
        have msf:=hide (HY.out.2.1.grown rdf')
        have hstr:=run_str (pile.Own.rdA (own_keep HROW.out rdf'.pg HSZ.out.2))
        rw [List.length_nil] at hstr
        have HCf:=hide kc
        have HNf:Hid (Nx p qf):=hide ⟨kt.trans HQ3.out.nx.ts,ke.trans HQ3.out.nx.ere,ko.trans HQ3.out.nx.op,by rw [ka];exact HQ3.out.nx.at_,by rw [kg];exact HQ3.out.nx.gr,fun e=>absurd e kc⟩
        have HAf:Hid (p.at_+1≤qf.at_∧qf.at_+2*p.open_≤3*p.ts.length+10∧qf.groups≤qf.at_):=hide (by rw [ka,kg,HQ3.out.gr];have h1:=HQ3.out.far;have h2:=HQ3.out.le;have h3:=hL9.out;exact ⟨by omega,by omega,by omega⟩)
        clear rdf' kc kt ka ke kg ko z0 z1 z2 z3 z5 z6 zf1 zf5 zf6 HFx
        have xr:=HRZ.out _ msf.out.rd.pg
        obtain ⟨r0',r1',r2',r3',r4'⟩:=cells5c xr
        have z0:=fz5c xr 0
        have z1:=fz5c xr 1
        have z2:=fz5c xr 2
        have z3:=fz5c xr 3
        have z4:=fz5c xr 4
        have HE:Hid ((set5 wf W.heap.size (.int .i64 3) (.int .i64 0) (.int .i64 0) (.string (strOfNums [])) (.slice none 0 0)).heap[W.heap.size]?=some (.cells #[.int .i64 3,.int .i64 0,.int .i64 0,.string (strOfNums []),.slice none 0 0] 25 (0,0))∧TrP 1 p b W #[.int .i64 3,.int .i64 0,.int .i64 0,.string (strOfNums []),.slice none 0 0] qf (set5 wf W.heap.size (.int .i64 3) (.int .i64 0) (.int .i64 0) (.string (strOfNums [])) (.slice none 0 0))):=hide ⟨set5_at xr trivial (.int .i64 3) (.int .i64 0) (.int .i64 0) (.string (strOfNums [])) (.slice none 0 0),(TrP.bad (s:=1) (p:=p) (W:=W1) (q:=qf) msf.out.rd HNf.out HCf.out HAf.out.1 HAf.out.2.1 HAf.out.2.2).up HBX.out _ _ _ _ _⟩
        unfold set5 at HE
        clear xr
        go_wp2
        generalize (((((wf.setCell ⟨W.heap.size,0,none⟩ (.int .i64 3)).setCell ⟨W.heap.size,1,none⟩ (.int .i64 0)).setCell ⟨W.heap.size,2,none⟩ (.int .i64 0)).setCell ⟨W.heap.size,3,none⟩ (.string (strOfNums []))).setCell ⟨W.heap.size,4,none⟩ (.slice none 0 0))=Wf at HE ⊢
        obtain ⟨u0,u1,u2,u3,u4⟩:=cells5c HE.out.1
        refine bodyPost_ret (v:=.agg #[.int .i64 3,.int .i64 0,.int .i64 0,.string (strOfNums []),.slice none 0 0]) ?_ rfl ⟨_,_,_,_,_,_,_,qf,rfl,HE.out.2⟩
        simp [results,Tryd.results94,go_sem,u0,u1,u2,u3,u4]
       ·have s1:((s.length:Int) == 0)=false:=by rw [beq_eq_false_iff_ne];have:s.length≠0:=fun e=>hsl (List.length_eq_zero_iff.1 e);omega
        have s2:decide ((s.length:Int)=0)=false:=decide_eq_false (by have:s.length≠0:=fun e=>hsl (List.length_eq_zero_iff.1 e);omega)
        have s3:(s.length == 0)=false:=by rw [beq_eq_false_iff_ne];exact fun e=>hsl (List.length_eq_zero_iff.1 e)
        have s4:decide (s=[])=false:=decide_eq_false hsl
        have s5:¬ s=[]:=hsl
        have s6:(s == [])=false:=by rw [beq_eq_false_iff_ne];exact hsl
        have s7:s.isEmpty=false:=by cases s with | nil=>exact absurd rfl hsl | cons a l=>rfl
        have HTr:Hid (TrP 1 p b W1 (rxV 3 0 0 (strOfNums s) nilV) q3 wr):=hide (TrP.leaf HY.out.2.1.rd HQ3.out.nx HQ3.out.gr HQ3.out.far (HQ3.out.ok h0) HOK.out (TreeAt.set _ _ _ hsl HY.out.2.2.ge HY.out.2.2.pw))
        have HPg:=hide HY.out.2.1.rd.pg
        clear h0 HY
        have xr:=HRZ.out _ HPg.out
        obtain ⟨r0',r1',r2',r3',r4'⟩:=cells5c xr
        have z0:=fz5c xr 0
        have z1:=fz5c xr 1
        have z2:=fz5c xr 2
        have z3:=fz5c xr 3
        have z4:=fz5c xr 4
        have HE:Hid ((set5 wr W.heap.size (.int .i64 3) (.int .i64 0) (.int .i64 0) (.string (strOfNums s)) (.slice none 0 0)).heap[W.heap.size]?=some (.cells #[.int .i64 3,.int .i64 0,.int .i64 0,.string (strOfNums s),.slice none 0 0] 25 (0,0))∧TrP 1 p b W #[.int .i64 3,.int .i64 0,.int .i64 0,.string (strOfNums s),.slice none 0 0] q3 (set5 wr W.heap.size (.int .i64 3) (.int .i64 0) (.int .i64 0) (.string (strOfNums s)) (.slice none 0 0))):=hide ⟨set5_at xr trivial (.int .i64 3) (.int .i64 0) (.int .i64 0) (.string (strOfNums s)) (.slice none 0 0),HTr.out.up HBX.out _ _ _ _ _⟩
        unfold set5 at HE
        clear xr
        go_wp2
        generalize (((((wr.setCell ⟨W.heap.size,0,none⟩ (.int .i64 3)).setCell ⟨W.heap.size,1,none⟩ (.int .i64 0)).setCell ⟨W.heap.size,2,none⟩ (.int .i64 0)).setCell ⟨W.heap.size,3,none⟩ (.string (strOfNums s))).setCell ⟨W.heap.size,4,none⟩ (.slice none 0 0))=Wf at HE ⊢
        obtain ⟨u0,u1,u2,u3,u4⟩:=cells5c HE.out.1
        refine bodyPost_ret (v:=.agg #[.int .i64 3,.int .i64 0,.int .i64 0,.string (strOfNums s),.slice none 0 0]) ?_ rfl ⟨_,_,_,_,_,_,_,q3,rfl,HE.out.2⟩
        simp [results,Tryd.results94,go_sem,u0,u1,u2,u3,u4]
      ·have k1:(q3.code == 0)=false:=by simpa using h0
       have k2:decide (q3.code=0)=false:=decide_eq_false h0
       have HTr:Hid (TrP 1 p b W1 (rxV 3 0 0 (strOfNums s) nilV) q3 wr):=hide (TrP.bad HY.out.2.1.rd HQ3.out.nx h0 HQ3.out.far (by have h1:=HQ3.out.le;have h3:=hL9.out;omega) (by rw [HQ3.out.gr];have h1:=HQ3.out.far;have h3:=hL9.out;omega))
       have HPg:=hide HY.out.2.1.rd.pg
       clear h0 HY
       have xr:=HRZ.out _ HPg.out
       obtain ⟨r0',r1',r2',r3',r4'⟩:=cells5c xr
       have z0:=fz5c xr 0
       have z1:=fz5c xr 1
       have z2:=fz5c xr 2
       have z3:=fz5c xr 3
       have z4:=fz5c xr 4
       have HE:Hid ((set5 wr W.heap.size (.int .i64 3) (.int .i64 0) (.int .i64 0) (.string (strOfNums s)) (.slice none 0 0)).heap[W.heap.size]?=some (.cells #[.int .i64 3,.int .i64 0,.int .i64 0,.string (strOfNums s),.slice none 0 0] 25 (0,0))∧TrP 1 p b W #[.int .i64 3,.int .i64 0,.int .i64 0,.string (strOfNums s),.slice none 0 0] q3 (set5 wr W.heap.size (.int .i64 3) (.int .i64 0) (.int .i64 0) (.string (strOfNums s)) (.slice none 0 0))):=hide ⟨set5_at xr trivial (.int .i64 3) (.int .i64 0) (.int .i64 0) (.string (strOfNums s)) (.slice none 0 0),HTr.out.up HBX.out _ _ _ _ _⟩
       unfold set5 at HE
       clear xr
       go_wp2
       generalize (((((wr.setCell ⟨W.heap.size,0,none⟩ (.int .i64 3)).setCell ⟨W.heap.size,1,none⟩ (.int .i64 0)).setCell ⟨W.heap.size,2,none⟩ (.int .i64 0)).setCell ⟨W.heap.size,3,none⟩ (.string (strOfNums s))).setCell ⟨W.heap.size,4,none⟩ (.slice none 0 0))=Wf at HE ⊢
       obtain ⟨u0,u1,u2,u3,u4⟩:=cells5c HE.out.1
       refine bodyPost_ret (v:=.agg #[.int .i64 3,.int .i64 0,.int .i64 0,.string (strOfNums s),.slice none 0 0]) ?_ rfl ⟨_,_,_,_,_,_,_,q3,rfl,HE.out.2⟩
       simp [results,Tryd.results94,go_sem,u0,u1,u2,u3,u4]
 | false =>
  rw [hB] at HIs
  clear hB
  go_wp2_with fail
  refine HIs.out.mono ?_
  rintro e w4 ⟨rfl,ms4'⟩
  have HB0:Hid (BkS p b W1.heap.size W1 q1 w4):=hide ⟨ms4',HB1.out.nx,HB1.out.gr,HB1.out.le,HB1.out.far⟩
  clear y0 y1 y2 y3 y5 y6 yf1 yf5 yf6 HIs
  obtain ⟨a0,a1,a2,a3,a5,a6,af1,af5,af6⟩:=ms4'.rd.can
  clear ms4'
  go_wp2
  go_loopw [5] (fun v5 wr=>∃ (fs:Bool) (q:Pq),v5=.bool fs∧Hid (BkS p b W1.heap.size W1 q wr)) (fun _ wr=>meaB b p.ts.length wr)
  case atStart=>exact ⟨true,_,rfl,hide HB0.out⟩
  case round =>
   obtain ⟨fs,q,rfl,HX⟩:=hrel
   clear a0 a1 a2 a3 a5 a6 af1 af5 af6
   obtain ⟨z0,z1,z2,z3,z5,z6,zf1,zf5,zf6⟩:=HX.out.ms.rd.can
   by_cases h0:q.code=0
   ·rw [h0] at z3
    have HC0q:=hide h0
    clear h0
    cases fs with
    | true =>
     have MSS:Hid (Ms b W1.heap.size W1 q wr):=hide HX.out.ms
     have HM:=hide (member_any q b W1.heap.size W1 wr MSS.out (by rw [HX.out.nx.ts];exact hL9.out.1) (by rw [HX.out.nx.ts];exact HOK.out.bytes) (by rw [HX.out.nx.ts];exact HX.out.le))
     go_wp2_with fail
     refine HM.out.mono ?_
     rintro e w7 hm
     have HMM:=hide hm
     obtain ⟨rfl,_⟩:=hm
     have HNX:=hide (BkS.next (BkS.mk MSS.out HX.out.nx HX.out.gr HX.out.le HX.out.far) HMM.out HC0q.out)
     go_wp2
     go_roundw
     case rel=>obtain ⟨r,h1,h2⟩:=HNX.out;exact ⟨false,r,rfl,hide h1⟩
     case measure=>obtain ⟨r,h1,h2⟩:=HNX.out;exact h2
    | false =>
     have HIs:=hide (HX.out.ms.is (by rw [HX.out.nx.ts];have:=hL9.out;omega) (by have:=HX.out.le;have:=hL9.out;omega) ⟨#[93]⟩ (by decide))
     cases hB:q.is ⟨#[93]⟩ with
     | true =>
      rw [hB] at HIs
      have HBt:=hide (is_true hB).2
      clear hB
      go_wp2_with fail
      refine HIs.out.mono ?_
      rintro e wi ⟨rfl,msi'⟩
      have msi:=hide msi'
      clear z0 z1 z2 z3 z5 z6 zf1 zf5 zf6 HIs
      obtain ⟨z0,z1,z2,z3,z5,z6,zf1,zf5,zf6⟩:=msi'.rd.can
      clear msi'
      obtain ⟨q3,hq3⟩:∃ q3:Pq,q3={ q with at_:=q.at_+1 }:=⟨_,rfl⟩
      have hw3:IntKind.i64.wrap ((q.at_:Int)+1)=(q3.at_:Int):=by rw [IntKind.wrap_i64,hq3];show _=((q.at_+1:Nat):Int);have:=HX.out.le;have:=hL9.out;omega
      have HQ3:Hid (QF p q3):=hide (by
       rw [hq3]
       exact ⟨by show _≤q.at_+1;have:=HX.out.far;omega,by show q.at_+1≤_;have:=HX.out.le;omega,HX.out.gr,HX.out.nx.tr (Nx.at q (Nat.le_succ _)),fun _=>by have h:=HBt.out;rw [HX.out.nx.ts] at h;exact h⟩)
      obtain ⟨w6,hw6⟩:∃ w6,wi.setCell ⟨b,1,none⟩ (.int .i64 (q3.at_:Int))=w6:=⟨_,rfl⟩
      have ms3:Hid (Ms b W1.heap.size W1 q3 w6):=hide (by rw [←hw6,hq3];exact msi.out.setAt (q.at_+1))
      obtain ⟨k4,hk4⟩:∃ k4,k4=q3.at_-1:=⟨_,rfl⟩
      have HK4:Hid (k4+1=q3.at_):=hide (by have:=HQ3.out.far;omega)
      have HS3:Hid (W1.heap.size+1≤w6.heap.size):=hide (by have:=ms3.out.row.lt;omega)
      clear hq3 hk4
      go_wp2
      go_loopw [6,7] (fun v6 v7 wr=>∃ (s:List Int) (ao:Option Addr) (cap c:Nat),v6=.slice ao s.length cap∧c≤256∧v7=.int .i64 (c:Int)∧Hid (bytes.Own wr (W1.heap.size+1) (.slice ao s.length cap) s∧Ms b W1.heap.size W1 q3 wr∧StS s c)) (fun _ v7 _=>256-(intOf v7).toNat)
      case atStart=>exact ⟨[],_,_,0,rfl,by omega,rfl,hide ⟨⟨fun x hx=>(by cases hx),rfl,.inr ⟨_,0,#[],rfl,HS3.out,heap_alloc_new _ _,Nat.le_refl _,by decide,rfl,rfl⟩⟩,ms3.out.alloc _,⟨List.Pairwise.nil,fun x hx=>(by cases hx),fun x hx=>(by cases hx),Nat.le_refl _⟩⟩⟩
      case round =>
       obtain ⟨s,ao,cap,c,rfl,hc,rfl,HY⟩:=hrel
       by_cases hcl:c<256
       ·have c1:(c:Int)<256:=by omega
        have cw:IntKind.u8.wrap (c:Int)=(c:Int):=by rw [IntKind.wrap_u8];omega
        have cw1:IntKind.i64.wrap ((c:Int)+1)=((c+1:Nat):Int):=by rw [IntKind.wrap_i64];omega
        obtain ⟨x,hx⟩:=HY.out.2.1.row.at_ hcl
        cases x with
        | true =>
         have HL:Hid (s.length+[(c:Int)].length≤140737488355328):=hide (by have hle:=HY.out.2.2.len;simp;omega)
         have HR:=hide (one_rd wr (c:Int) (by omega) (by omega))
         have HO:=hide (HY.out.1.below ((Below.refl wr.heap.size wr).alloc (Nat.le_refl _) (.cells #[.int .u8 (c:Int)] 5)) (Nat.le_refl _))
         have HN:Hid (∀ (v':Value) (w':World),bytes.Own w' (W1.heap.size+1) v' (s++[(c:Int)])→(wr.alloc (.cells #[.int .u8 (c:Int)] 5)).grownBy w' (Value.slice ao s.length cap).ownBlock→∃ ao' cap',v'=.slice ao' (s++[(c:Int)]).length cap'∧bytes.Own w' (W1.heap.size+1) (.slice ao' (s++[(c:Int)]).length cap') (s++[(c:Int)])∧Ms b W1.heap.size W1 q3 w'∧StS (s++[(c:Int)]) (c+1)):=hide fun v' w' ho hg=>by
          obtain ⟨ao',cap',rfl⟩:=own_slice ho
          refine ⟨ao',cap',rfl,ho,(HY.out.2.1.alloc _).app hg fun k hk => ?_,HY.out.2.2.add hcl⟩
          have:=(HY.out.1.lt k hk).1
          omega
         have HZ:Hid (W1.heap.size+1≤(wr.alloc (.cells #[.int .u8 (c:Int)] 5)).heap.size):=hide (by have:=HY.out.2.1.row.lt;simp;omega)
         go_wp2_with (at_builtin;refine wpList_append_rd _ rfl _ _ 22 rfl Tryd.underlying22 info5 (W1.heap.size+1) _ s rfl HO.out _ [(c:Int)] rfl HR.out HL.out HZ.out ?_;intro v' w2 hown hgrow;obtain ⟨ao',cap',rfl,HX2⟩:=HN.out v' w2 hown hgrow)
         go_roundw
         case rel=>exact ⟨s++[(c:Int)],ao',cap',c+1,by simp,by omega,by simp,hide HX2⟩
         case measure=>simp [intOf];omega
        | false =>
         go_wp2
         go_roundw
         case rel=>exact ⟨s,ao,cap,c+1,rfl,by omega,by simp,hide ⟨HY.out.1,HY.out.2.1,HY.out.2.2.up⟩⟩
         case measure=>simp [intOf];omega
       ·obtain rfl:c=256:=by omega
        obtain ⟨z0,z1,z2,z3,z5,z6,zf1,zf5,zf6⟩:=HY.out.2.1.rd.can
        have hstr:=run_str (pile.Own.rdA HY.out.1)
        have hmw:IntKind.i64.wrap ((q3.at_:Int)-1)=(k4:Int):=by rw [IntKind.wrap_i64];have:=HK4.out;have:=HQ3.out.le;have:=hL9.out;omega
        by_cases h0:q3.code=0
        ·rw [h0] at z3
         by_cases hsl:s=[]
         ·subst hsl
          have hf0:=(Rd.refl HY.out.2.1.rd.pb).failx (c:=4) (by decide) (k4:Int)
          have HFx:=hide hf0
          have HROW:=hide HY.out.1
          clear h0 hf0
          go_wp2_with fail
          refine HFx.out.mono ?_
          rintro e wf ⟨qf,rfl,rdf',kc,kt,ka,ke,kg,ko⟩
          have msf:=hide (HY.out.2.1.grown rdf')
          have hstr:=run_str (pile.Own.rdA (own_keep HROW.out rdf'.pg HSZ.out.2))
          rw [List.length_nil] at hstr
          have HCf:=hide kc
          have HNf:Hid (Nx p qf):=hide ⟨kt.trans HQ3.out.nx.ts,ke.trans HQ3.out.nx.ere,ko.trans HQ3.out.nx.op,by rw [ka];exact HQ3.out.nx.at_,by rw [kg];exact HQ3.out.nx.gr,fun e=>absurd e kc⟩
          have HAf:Hid (p.at_+1≤qf.at_∧qf.at_+2*p.open_≤3*p.ts.length+10∧qf.groups≤qf.at_):=hide (by rw [ka,kg,HQ3.out.gr];have h1:=HQ3.out.far;have h2:=HQ3.out.le;have h3:=hL9.out;exact ⟨by omega,by omega,by omega⟩)
          clear rdf' kc kt ka ke kg ko z0 z1 z2 z3 z5 z6 zf1 zf5 zf6 HFx
          have xr:=HRZ.out _ msf.out.rd.pg
          obtain ⟨r0',r1',r2',r3',r4'⟩:=cells5c xr
          have z0:=fz5c xr 0
          have z1:=fz5c xr 1
          have z2:=fz5c xr 2
          have z3:=fz5c xr 3
          have z4:=fz5c xr 4
          have HE:Hid ((set5 wf W.heap.size (.int .i64 3) (.int .i64 0) (.int .i64 0) (.string (strOfNums [])) (.slice none 0 0)).heap[W.heap.size]?=some (.cells #[.int .i64 3,.int .i64 0,.int .i64 0,.string (strOfNums []),.slice none 0 0] 25 (0,0))∧TrP 1 p b W #[.int .i64 3,.int .i64 0,.int .i64 0,.string (strOfNums []),.slice none 0 0] qf (set5 wf W.heap.size (.int .i64 3) (.int .i64 0) (.int .i64 0) (.string (strOfNums [])) (.slice none 0 0))):=hide ⟨set5_at xr trivial (.int .i64 3) (.int .i64 0) (.int .i64 0) (.string (strOfNums [])) (.slice none 0 0),(TrP.bad (s:=1) (p:=p) (W:=W1) (q:=qf) msf.out.rd HNf.out HCf.out HAf.out.1 HAf.out.2.1 HAf.out.2.2).up HBX.out _ _ _ _ _⟩
          unfold set5 at HE
          clear xr
          go_wp2
          generalize (((((wf.setCell ⟨W.heap.size,0,none⟩ (.int .i64 3)).setCell ⟨W.heap.size,1,none⟩ (.int .i64 0)).setCell ⟨W.heap.size,2,none⟩ (.int .i64 0)).setCell ⟨W.heap.size,3,none⟩ (.string (strOfNums []))).setCell ⟨W.heap.size,4,none⟩ (.slice none 0 0))=Wf at HE ⊢
          obtain ⟨u0,u1,u2,u3,u4⟩:=cells5c HE.out.1
          refine bodyPost_ret (v:=.agg #[.int .i64 3,.int .i64 0,.int .i64 0,.string (strOfNums []),.slice none 0 0]) ?_ rfl ⟨_,_,_,_,_,_,_,qf,rfl,HE.out.2⟩
          simp [results,Tryd.results94,go_sem,u0,u1,u2,u3,u4]
         ·have s1:((s.length:Int) == 0)=false:=by rw [beq_eq_false_iff_ne];have:s.length≠0:=fun e=>hsl (List.length_eq_zero_iff.1 e);omega
          have s2:decide ((s.length:Int)=0)=false:=decide_eq_false (by have:s.length≠0:=fun e=>hsl (List.length_eq_zero_iff.1 e);omega)
          have s3:(s.length == 0)=false:=by rw [beq_eq_false_iff_ne];exact fun e=>hsl (List.length_eq_zero_iff.1 e)
          have s4:decide (s=[])=false:=decide_eq_false hsl
          have s5:¬ s=[]:=hsl
          have s6:(s == [])=false:=by rw [beq_eq_false_iff_ne];exact hsl
          have s7:s.isEmpty=false:=by cases s with | nil=>exact absurd rfl hsl | cons a l=>rfl
          have HTr:Hid (TrP 1 p b W1 (rxV 3 0 0 (strOfNums s) nilV) q3 wr):=hide (TrP.leaf HY.out.2.1.rd HQ3.out.nx HQ3.out.gr HQ3.out.far (HQ3.out.ok h0) HOK.out (TreeAt.set _ _ _ hsl HY.out.2.2.ge HY.out.2.2.pw))
          have HPg:=hide HY.out.2.1.rd.pg
          clear h0 HY
          have xr:=HRZ.out _ HPg.out
          obtain ⟨r0',r1',r2',r3',r4'⟩:=cells5c xr
          have z0:=fz5c xr 0
          have z1:=fz5c xr 1
          have z2:=fz5c xr 2
          have z3:=fz5c xr 3
          have z4:=fz5c xr 4
          have HE:Hid ((set5 wr W.heap.size (.int .i64 3) (.int .i64 0) (.int .i64 0) (.string (strOfNums s)) (.slice none 0 0)).heap[W.heap.size]?=some (.cells #[.int .i64 3,.int .i64 0,.int .i64 0,.string (strOfNums s),.slice none 0 0] 25 (0,0))∧TrP 1 p b W #[.int .i64 3,.int .i64 0,.int .i64 0,.string (strOfNums s),.slice none 0 0] q3 (set5 wr W.heap.size (.int .i64 3) (.int .i64 0) (.int .i64 0) (.string (strOfNums s)) (.slice none 0 0))):=hide ⟨set5_at xr trivial (.int .i64 3) (.int .i64 0) (.int .i64 0) (.string (strOfNums s)) (.slice none 0 0),HTr.out.up HBX.out _ _ _ _ _⟩
          unfold set5 at HE
          clear xr
          go_wp2
          generalize (((((wr.setCell ⟨W.heap.size,0,none⟩ (.int .i64 3)).setCell ⟨W.heap.size,1,none⟩ (.int .i64 0)).setCell ⟨W.heap.size,2,none⟩ (.int .i64 0)).setCell ⟨W.heap.size,3,none⟩ (.string (strOfNums s))).setCell ⟨W.heap.size,4,none⟩ (.slice none 0 0))=Wf at HE ⊢
          obtain ⟨u0,u1,u2,u3,u4⟩:=cells5c HE.out.1
          refine bodyPost_ret (v:=.agg #[.int .i64 3,.int .i64 0,.int .i64 0,.string (strOfNums s),.slice none 0 0]) ?_ rfl ⟨_,_,_,_,_,_,_,q3,rfl,HE.out.2⟩
          simp [results,Tryd.results94,go_sem,u0,u1,u2,u3,u4]
        ·have k1:(q3.code == 0)=false:=by simpa using h0
         have k2:decide (q3.code=0)=false:=decide_eq_false h0
         have HTr:Hid (TrP 1 p b W1 (rxV 3 0 0 (strOfNums s) nilV) q3 wr):=hide (TrP.bad HY.out.2.1.rd HQ3.out.nx h0 HQ3.out.far (by have h1:=HQ3.out.le;have h3:=hL9.out;omega) (by rw [HQ3.out.gr];have h1:=HQ3.out.far;have h3:=hL9.out;omega))
         have HPg:=hide HY.out.2.1.rd.pg
         clear h0 HY
         have xr:=HRZ.out _ HPg.out
         obtain ⟨r0',r1',r2',r3',r4'⟩:=cells5c xr
         have z0:=fz5c xr 0
         have z1:=fz5c xr 1
         have z2:=fz5c xr 2
         have z3:=fz5c xr 3
         have z4:=fz5c xr 4
         have HE:Hid ((set5 wr W.heap.size (.int .i64 3) (.int .i64 0) (.int .i64 0) (.string (strOfNums s)) (.slice none 0 0)).heap[W.heap.size]?=some (.cells #[.int .i64 3,.int .i64 0,.int .i64 0,.string (strOfNums s),.slice none 0 0] 25 (0,0))∧TrP 1 p b W #[.int .i64 3,.int .i64 0,.int .i64 0,.string (strOfNums s),.slice none 0 0] q3 (set5 wr W.heap.size (.int .i64 3) (.int .i64 0) (.int .i64 0) (.string (strOfNums s)) (.slice none 0 0))):=hide ⟨set5_at xr trivial (.int .i64 3) (.int .i64 0) (.int .i64 0) (.string (strOfNums s)) (.slice none 0 0),HTr.out.up HBX.out _ _ _ _ _⟩
         unfold set5 at HE
         clear xr
         go_wp2
         generalize (((((wr.setCell ⟨W.heap.size,0,none⟩ (.int .i64 3)).setCell ⟨W.heap.size,1,none⟩ (.int .i64 0)).setCell ⟨W.heap.size,2,none⟩ (.int .i64 0)).setCell ⟨W.heap.size,3,none⟩ (.string (strOfNums s))).setCell ⟨W.heap.size,4,none⟩ (.slice none 0 0))=Wf at HE ⊢
         obtain ⟨u0,u1,u2,u3,u4⟩:=cells5c HE.out.1
         refine bodyPost_ret (v:=.agg #[.int .i64 3,.int .i64 0,.int .i64 0,.string (strOfNums s),.slice none 0 0]) ?_ rfl ⟨_,_,_,_,_,_,_,q3,rfl,HE.out.2⟩
         simp [results,Tryd.results94,go_sem,u0,u1,u2,u3,u4]
     | false =>
      rw [hB] at HIs
      clear hB
      go_wp2_with fail
      refine HIs.out.mono ?_
      rintro e wi ⟨rfl,msi'⟩
      have HMe:Hid (meaB b p.ts.length wi=meaB b p.ts.length wr):=hide (by rw [meaB_eq msi'.rd.pb,meaB_eq HX.out.ms.rd.pb])
      have MSS:Hid (Ms b W1.heap.size W1 q wi):=hide msi'
      clear msi' HIs z0 z1 z2 z3 z5 z6 zf1 zf5 zf6
      have HM:=hide (member_any q b W1.heap.size W1 wi MSS.out (by rw [HX.out.nx.ts];exact hL9.out.1) (by rw [HX.out.nx.ts];exact HOK.out.bytes) (by rw [HX.out.nx.ts];exact HX.out.le))
      go_wp2_with fail
      refine HM.out.mono ?_
      rintro e w7 hm
      have HMM:=hide hm
      obtain ⟨rfl,_⟩:=hm
      have HNX:=hide (BkS.next (BkS.mk MSS.out HX.out.nx HX.out.gr HX.out.le HX.out.far) HMM.out HC0q.out)
      go_wp2
      go_roundw
      case rel=>obtain ⟨r,h1,h2⟩:=HNX.out;exact ⟨false,r,rfl,hide h1⟩
      case measure=>obtain ⟨r,h1,h2⟩:=HNX.out;exact (by rw [HMe.out] at h2;exact h2)
   ·have k1:(q.code == 0)=false:=by simpa using h0
    have k2:decide (q.code=0)=false:=decide_eq_false h0
    have ms0:=hide HX.out.ms
    obtain ⟨q3,hq3⟩:∃ q3:Pq,q3={ q with at_:=q.at_+1 }:=⟨_,rfl⟩
    have hw3:IntKind.i64.wrap ((q.at_:Int)+1)=(q3.at_:Int):=by rw [IntKind.wrap_i64,hq3];show _=((q.at_+1:Nat):Int);have:=HX.out.le;have:=hL9.out;omega
    have HQ3:Hid (QF p q3):=hide (by
     rw [hq3]
     exact ⟨by show _≤q.at_+1;have:=HX.out.far;omega,by show q.at_+1≤_;have:=HX.out.le;omega,HX.out.gr,HX.out.nx.tr (Nx.at q (Nat.le_succ _)),fun e=>absurd e h0⟩)
    obtain ⟨w6,hw6⟩:∃ w6,wr.setCell ⟨b,1,none⟩ (.int .i64 (q3.at_:Int))=w6:=⟨_,rfl⟩
    have ms3:Hid (Ms b W1.heap.size W1 q3 w6):=hide (by rw [←hw6,hq3];exact ms0.out.setAt (q.at_+1))
    obtain ⟨k4,hk4⟩:∃ k4,k4=q3.at_-1:=⟨_,rfl⟩
    have HK4:Hid (k4+1=q3.at_):=hide (by have:=HQ3.out.far;omega)
    have HS3:Hid (W1.heap.size+1≤w6.heap.size):=hide (by have:=ms3.out.row.lt;omega)
    clear hq3 hk4
    clear h0
    go_wp2
    go_loopw [6,7] (fun v6 v7 wr=>∃ (s:List Int) (ao:Option Addr) (cap c:Nat),v6=.slice ao s.length cap∧c≤256∧v7=.int .i64 (c:Int)∧Hid (bytes.Own wr (W1.heap.size+1) (.slice ao s.length cap) s∧Ms b W1.heap.size W1 q3 wr∧StS s c)) (fun _ v7 _=>256-(intOf v7).toNat)
    case atStart=>exact ⟨[],_,_,0,rfl,by omega,rfl,hide ⟨⟨fun x hx=>(by cases hx),rfl,.inr ⟨_,0,#[],rfl,HS3.out,heap_alloc_new _ _,Nat.le_refl _,by decide,rfl,rfl⟩⟩,ms3.out.alloc _,⟨List.Pairwise.nil,fun x hx=>(by cases hx),fun x hx=>(by cases hx),Nat.le_refl _⟩⟩⟩
    case round =>
     obtain ⟨s,ao,cap,c,rfl,hc,rfl,HY⟩:=hrel
     by_cases hcl:c<256
     ·have c1:(c:Int)<256:=by omega
      have cw:IntKind.u8.wrap (c:Int)=(c:Int):=by rw [IntKind.wrap_u8];omega
      have cw1:IntKind.i64.wrap ((c:Int)+1)=((c+1:Nat):Int):=by rw [IntKind.wrap_i64];omega
      obtain ⟨x,hx⟩:=HY.out.2.1.row.at_ hcl
      cases x with
      | true =>
       have HL:Hid (s.length+[(c:Int)].length≤140737488355328):=hide (by have hle:=HY.out.2.2.len;simp;omega)
       have HR:=hide (one_rd wr (c:Int) (by omega) (by omega))
       have HO:=hide (HY.out.1.below ((Below.refl wr.heap.size wr).alloc (Nat.le_refl _) (.cells #[.int .u8 (c:Int)] 5)) (Nat.le_refl _))
       have HN:Hid (∀ (v':Value) (w':World),bytes.Own w' (W1.heap.size+1) v' (s++[(c:Int)])→(wr.alloc (.cells #[.int .u8 (c:Int)] 5)).grownBy w' (Value.slice ao s.length cap).ownBlock→∃ ao' cap',v'=.slice ao' (s++[(c:Int)]).length cap'∧bytes.Own w' (W1.heap.size+1) (.slice ao' (s++[(c:Int)]).length cap') (s++[(c:Int)])∧Ms b W1.heap.size W1 q3 w'∧StS (s++[(c:Int)]) (c+1)):=hide fun v' w' ho hg=>by
        obtain ⟨ao',cap',rfl⟩:=own_slice ho
        refine ⟨ao',cap',rfl,ho,(HY.out.2.1.alloc _).app hg fun k hk => ?_,HY.out.2.2.add hcl⟩
        have:=(HY.out.1.lt k hk).1
        omega
       have HZ:Hid (W1.heap.size+1≤(wr.alloc (.cells #[.int .u8 (c:Int)] 5)).heap.size):=hide (by have:=HY.out.2.1.row.lt;simp;omega)
       go_wp2_with (at_builtin;refine wpList_append_rd _ rfl _ _ 22 rfl Tryd.underlying22 info5 (W1.heap.size+1) _ s rfl HO.out _ [(c:Int)] rfl HR.out HL.out HZ.out ?_;intro v' w2 hown hgrow;obtain ⟨ao',cap',rfl,HX2⟩:=HN.out v' w2 hown hgrow)
       go_roundw
       case rel=>exact ⟨s++[(c:Int)],ao',cap',c+1,by simp,by omega,by simp,hide HX2⟩
       case measure=>simp [intOf];omega
      | false =>
       go_wp2
       go_roundw
       case rel=>exact ⟨s,ao,cap,c+1,rfl,by omega,by simp,hide ⟨HY.out.1,HY.out.2.1,HY.out.2.2.up⟩⟩
       case measure=>simp [intOf];omega
     ·obtain rfl:c=256:=by omega
      obtain ⟨z0,z1,z2,z3,z5,z6,zf1,zf5,zf6⟩:=HY.out.2.1.rd.can
      have hstr:=run_str (pile.Own.rdA HY.out.1)
      have hmw:IntKind.i64.wrap ((q3.at_:Int)-1)=(k4:Int):=by rw [IntKind.wrap_i64];have:=HK4.out;have:=HQ3.out.le;have:=hL9.out;omega
      by_cases h0:q3.code=0
      ·rw [h0] at z3
       by_cases hsl:s=[]
       ·subst hsl
        have hf0:=(Rd.refl HY.out.2.1.rd.pb).failx (c:=4) (by decide) (k4:Int)
        have HFx:=hide hf0
        have HROW:=hide HY.out.1
        clear h0 hf0
        go_wp2_with fail
        refine HFx.out.mono ?_
        rintro e wf ⟨qf,rfl,rdf',kc,kt,ka,ke,kg,ko⟩
        have msf:=hide (HY.out.2.1.grown rdf')
        have hstr:=run_str (pile.Own.rdA (own_keep HROW.out rdf'.pg HSZ.out.2))
        rw [List.length_nil] at hstr
        have HCf:=hide kc
        have HNf:Hid (Nx p qf):=hide ⟨kt.trans HQ3.out.nx.ts,ke.trans HQ3.out.nx.ere,ko.trans HQ3.out.nx.op,by rw [ka];exact HQ3.out.nx.at_,by rw [kg];exact HQ3.out.nx.gr,fun e=>absurd e kc⟩
        have HAf:Hid (p.at_+1≤qf.at_∧qf.at_+2*p.open_≤3*p.ts.length+10∧qf.groups≤qf.at_):=hide (by rw [ka,kg,HQ3.out.gr];have h1:=HQ3.out.far;have h2:=HQ3.out.le;have h3:=hL9.out;exact ⟨by omega,by omega,by omega⟩)
        clear rdf' kc kt ka ke kg ko z0 z1 z2 z3 z5 z6 zf1 zf5 zf6 HFx
        have xr:=HRZ.out _ msf.out.rd.pg
        obtain ⟨r0',r1',r2',r3',r4'⟩:=cells5c xr
        have z0:=fz5c xr 0
        have z1:=fz5c xr 1
        have z2:=fz5c xr 2
        have z3:=fz5c xr 3
        have z4:=fz5c xr 4
        have HE:Hid ((set5 wf W.heap.size (.int .i64 3) (.int .i64 0) (.int .i64 0) (.string (strOfNums [])) (.slice none 0 0)).heap[W.heap.size]?=some (.cells #[.int .i64 3,.int .i64 0,.int .i64 0,.string (strOfNums []),.slice none 0 0] 25 (0,0))∧TrP 1 p b W #[.int .i64 3,.int .i64 0,.int .i64 0,.string (strOfNums []),.slice none 0 0] qf (set5 wf W.heap.size (.int .i64 3) (.int .i64 0) (.int .i64 0) (.string (strOfNums [])) (.slice none 0 0))):=hide ⟨set5_at xr trivial (.int .i64 3) (.int .i64 0) (.int .i64 0) (.string (strOfNums [])) (.slice none 0 0),(TrP.bad (s:=1) (p:=p) (W:=W1) (q:=qf) msf.out.rd HNf.out HCf.out HAf.out.1 HAf.out.2.1 HAf.out.2.2).up HBX.out _ _ _ _ _⟩
        unfold set5 at HE
        clear xr
        go_wp2
        generalize (((((wf.setCell ⟨W.heap.size,0,none⟩ (.int .i64 3)).setCell ⟨W.heap.size,1,none⟩ (.int .i64 0)).setCell ⟨W.heap.size,2,none⟩ (.int .i64 0)).setCell ⟨W.heap.size,3,none⟩ (.string (strOfNums []))).setCell ⟨W.heap.size,4,none⟩ (.slice none 0 0))=Wf at HE ⊢
        obtain ⟨u0,u1,u2,u3,u4⟩:=cells5c HE.out.1
        refine bodyPost_ret (v:=.agg #[.int .i64 3,.int .i64 0,.int .i64 0,.string (strOfNums []),.slice none 0 0]) ?_ rfl ⟨_,_,_,_,_,_,_,qf,rfl,HE.out.2⟩
        simp [results,Tryd.results94,go_sem,u0,u1,u2,u3,u4]
       ·have s1:((s.length:Int) == 0)=false:=by rw [beq_eq_false_iff_ne];have:s.length≠0:=fun e=>hsl (List.length_eq_zero_iff.1 e);omega
        have s2:decide ((s.length:Int)=0)=false:=decide_eq_false (by have:s.length≠0:=fun e=>hsl (List.length_eq_zero_iff.1 e);omega)
        have s3:(s.length == 0)=false:=by rw [beq_eq_false_iff_ne];exact fun e=>hsl (List.length_eq_zero_iff.1 e)
        have s4:decide (s=[])=false:=decide_eq_false hsl
        have s5:¬ s=[]:=hsl
        have s6:(s == [])=false:=by rw [beq_eq_false_iff_ne];exact hsl
        have s7:s.isEmpty=false:=by cases s with | nil=>exact absurd rfl hsl | cons a l=>rfl
        have HTr:Hid (TrP 1 p b W1 (rxV 3 0 0 (strOfNums s) nilV) q3 wr):=hide (TrP.leaf HY.out.2.1.rd HQ3.out.nx HQ3.out.gr HQ3.out.far (HQ3.out.ok h0) HOK.out (TreeAt.set _ _ _ hsl HY.out.2.2.ge HY.out.2.2.pw))
        have HPg:=hide HY.out.2.1.rd.pg
        clear h0 HY
        have xr:=HRZ.out _ HPg.out
        obtain ⟨r0',r1',r2',r3',r4'⟩:=cells5c xr
        have z0:=fz5c xr 0
        have z1:=fz5c xr 1
        have z2:=fz5c xr 2
        have z3:=fz5c xr 3
        have z4:=fz5c xr 4
        have HE:Hid ((set5 wr W.heap.size (.int .i64 3) (.int .i64 0) (.int .i64 0) (.string (strOfNums s)) (.slice none 0 0)).heap[W.heap.size]?=some (.cells #[.int .i64 3,.int .i64 0,.int .i64 0,.string (strOfNums s),.slice none 0 0] 25 (0,0))∧TrP 1 p b W #[.int .i64 3,.int .i64 0,.int .i64 0,.string (strOfNums s),.slice none 0 0] q3 (set5 wr W.heap.size (.int .i64 3) (.int .i64 0) (.int .i64 0) (.string (strOfNums s)) (.slice none 0 0))):=hide ⟨set5_at xr trivial (.int .i64 3) (.int .i64 0) (.int .i64 0) (.string (strOfNums s)) (.slice none 0 0),HTr.out.up HBX.out _ _ _ _ _⟩
        unfold set5 at HE
        clear xr
        go_wp2
        generalize (((((wr.setCell ⟨W.heap.size,0,none⟩ (.int .i64 3)).setCell ⟨W.heap.size,1,none⟩ (.int .i64 0)).setCell ⟨W.heap.size,2,none⟩ (.int .i64 0)).setCell ⟨W.heap.size,3,none⟩ (.string (strOfNums s))).setCell ⟨W.heap.size,4,none⟩ (.slice none 0 0))=Wf at HE ⊢
        obtain ⟨u0,u1,u2,u3,u4⟩:=cells5c HE.out.1
        refine bodyPost_ret (v:=.agg #[.int .i64 3,.int .i64 0,.int .i64 0,.string (strOfNums s),.slice none 0 0]) ?_ rfl ⟨_,_,_,_,_,_,_,q3,rfl,HE.out.2⟩
        simp [results,Tryd.results94,go_sem,u0,u1,u2,u3,u4]
      ·have k1:(q3.code == 0)=false:=by simpa using h0
       have k2:decide (q3.code=0)=false:=decide_eq_false h0
       have HTr:Hid (TrP 1 p b W1 (rxV 3 0 0 (strOfNums s) nilV) q3 wr):=hide (TrP.bad HY.out.2.1.rd HQ3.out.nx h0 HQ3.out.far (by have h1:=HQ3.out.le;have h3:=hL9.out;omega) (by rw [HQ3.out.gr];have h1:=HQ3.out.far;have h3:=hL9.out;omega))
       have HPg:=hide HY.out.2.1.rd.pg
       clear h0 HY
       have xr:=HRZ.out _ HPg.out
       obtain ⟨r0',r1',r2',r3',r4'⟩:=cells5c xr
       have z0:=fz5c xr 0
       have z1:=fz5c xr 1
       have z2:=fz5c xr 2
       have z3:=fz5c xr 3
       have z4:=fz5c xr 4
       have HE:Hid ((set5 wr W.heap.size (.int .i64 3) (.int .i64 0) (.int .i64 0) (.string (strOfNums s)) (.slice none 0 0)).heap[W.heap.size]?=some (.cells #[.int .i64 3,.int .i64 0,.int .i64 0,.string (strOfNums s),.slice none 0 0] 25 (0,0))∧TrP 1 p b W #[.int .i64 3,.int .i64 0,.int .i64 0,.string (strOfNums s),.slice none 0 0] q3 (set5 wr W.heap.size (.int .i64 3) (.int .i64 0) (.int .i64 0) (.string (strOfNums s)) (.slice none 0 0))):=hide ⟨set5_at xr trivial (.int .i64 3) (.int .i64 0) (.int .i64 0) (.string (strOfNums s)) (.slice none 0 0),HTr.out.up HBX.out _ _ _ _ _⟩
       unfold set5 at HE
       clear xr
       go_wp2
       generalize (((((wr.setCell ⟨W.heap.size,0,none⟩ (.int .i64 3)).setCell ⟨W.heap.size,1,none⟩ (.int .i64 0)).setCell ⟨W.heap.size,2,none⟩ (.int .i64 0)).setCell ⟨W.heap.size,3,none⟩ (.string (strOfNums s))).setCell ⟨W.heap.size,4,none⟩ (.slice none 0 0))=Wf at HE ⊢
       obtain ⟨u0,u1,u2,u3,u4⟩:=cells5c HE.out.1
       refine bodyPost_ret (v:=.agg #[.int .i64 3,.int .i64 0,.int .i64 0,.string (strOfNums s),.slice none 0 0]) ?_ rfl ⟨_,_,_,_,_,_,_,q3,rfl,HE.out.2⟩
       simp [results,Tryd.results94,go_sem,u0,u1,u2,u3,u4]
end Go.Proofs.YtfhimmnoipfiaaaDoor.eng

import Derived.Test.YtfhimmnoipfiaaaDoorUPme
import Derived.Test.YtfhimmnoipfiaaaDoorUPile
import Derived.Laws.BytesString
import Derived.Laws.IdiomStrings
import Derived.Lib.BufferRead
namespace Go.Proofs.YtfhimmnoipfiaaaDoor.eng
open Go.ChangeShapes Go.WideShapes Go.ChangeAt Go.RowKit
open bytes pile places sets tz rex
set_option linter.unusedVariables false
theorem run_str {w:World} {u:Value} {ys:List Int} (h:RdA w u ys):(convert 22 9 u).run Tryd.prog w=.ok (.string (strOfNums ys)) w:=by
 have he:strOfNums ys=⟨(ys.map fun y=>UInt8.ofNat y.toNat).toArray⟩:=by simp [strOfNums]
 rw [he]
 obtain ⟨⟨ao,cap,rfl,h1,h2,h3,h4⟩,hnil⟩:=h
 cases ao with
 | none =>
  have e:=hnil _ _ rfl
  simp only [Value.slice.injEq,true_and] at e
  have hys:ys=[]:=List.length_eq_zero_iff.1 e.1
  subst hys
  exact Lib.run_convert_nil_bytes w 22 9 5 cap Tryd.underlying22 Tryd.underlying5 Tryd.underlying9
 | some ad =>
  have hl:(ys.map fun y=>UInt8.ofNat y.toNat).length=ys.length:=by simp
  have:=run_convert_bytes_back (P:=Tryd.prog) w 22 9 5 ad cap (ys.map fun y=>UInt8.ofNat y.toNat) Tryd.underlying22 Tryd.underlying5 Tryd.underlying9 (fun j hj=>by
   rw [hl] at hj
   obtain ⟨b,off,e,hc⟩:=h4 (by omega)
   simp only [Option.some.injEq] at e
   subst e
   rw [add_at,hc j hj]
   have hb:=h3 _ (List.getElem_mem hj)
   have hmod:(UInt8.ofNat (ys[j]).toNat).toNat=(ys[j]).toNat:=by
    simp
    omega
   simp only [List.getElem_map,hmod,List.getD_eq_getElem?_getD,List.getElem?_eq_getElem hj,Option.getD_some]
   congr 2
   omega)
  rw [hl] at this
  exact this
theorem one_rd (w:World) (c:Int) (h0:0≤c) (h9:c≤255):RdA (w.alloc (.cells #[.int .u8 c] 5)) (.slice (some ⟨w.heap.size,0,none⟩) 1 1) [c]:=by
 refine ⟨⟨_,1,rfl,Nat.le_refl _,by decide,fun x hx => ?_,fun _=>⟨w.heap.size,0,rfl,fun i hi => ?_⟩⟩,fun n c h=>by simp at h⟩
 ·simp only [List.mem_singleton] at hx
  subst hx
  exact ⟨h0,h9⟩
 ·have:i=0:=by simpa using hi
  subst this
  have e:=heap_alloc_new w (.cells #[.int .u8 c] 5)
  generalize w.alloc (.cells #[.int .u8 c] 5)=w' at e ⊢
  simp [World.cell?,e]
theorem Ms.app {b D:Nat} {W w w2:World} {q:Pq} {row:Option Nat} (h:Ms b D W q w) (hg:w.grownBy w2 row) (hr:∀ k,row=some k→D<k):Ms b D W q w2:=by
 have hb:=h.b
 have hlo:=h.lo
 have hlt:=h.row.lt
 have hbl:=h.rd.pb.lt
 have hs:=h.rd.pg.size
 refine ⟨⟨h.rd.pb.keep (hg.block b hbl fun e=>by have:=hr b e.symm;omega),⟨hg.os.trans h.rd.pg.os,hg.tape.trans h.rd.pg.tape,hg.output.trans h.rd.pg.output,Nat.le_trans hs hg.size,fun k hk hn => ?_⟩⟩,h.row.keep (hg.block D hlt fun e=>by have:=hr D e.symm;omega),hlo,hb⟩
 exact (hg.block k (by omega) fun e=>by have:=hr k e.symm;omega).trans (h.rd.pg.block k hk hn)
theorem Ms.alloc {b D:Nat} {W w:World} {q:Pq} (h:Ms b D W q w) (o:Obj):Ms b D W q (w.alloc o):=h.grown ((Rd.refl h.rd.pb).alloc o)
theorem own_keep {w w':World} {base b:Nat} {v:Value} {s:List Int} (h:bytes.Own w base v s) (hg:PG b w w') (hb:b<base):bytes.Own w' base v s:=by
 refine ⟨h.1,h.2.1,?_⟩
 rcases h.2.2 with h0 | ⟨g,cap,cur,h1,h2,h3,h4⟩
 ·exact .inl h0
 ·exact .inr ⟨g,cap,cur,h1,h2,(hg.block g (Array.getElem?_eq_some_iff.1 h3).1 (by simp;omega)).trans h3,h4⟩
end Go.Proofs.YtfhimmnoipfiaaaDoor.eng

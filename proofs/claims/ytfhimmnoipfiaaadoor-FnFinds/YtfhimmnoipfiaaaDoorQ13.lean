import Derived.Test.YtfhimmnoipfiaaaDoorQ08
import Derived.Deep.DeepCutAuto
import Derived.Test.YtfhimmnoipfiaaaDoorQ12
import Derived.Test.YtfhimmnoipfiaaaDoorQ03
import Derived.Test.YtfhimmnoipfiaaaDoorQ02
import Derived.Deep.QuietTactic
import Derived.BigQuiet
import Derived.Test.YtfhimmnoipfiaaaDoorQ01
import Derived.Laws.AppendOwnNone
import Derived.Laws.BytesString
import Derived.Laws.IdiomStrings
import Derived.Lib.BufferRead
set_option linter.unusedVariables false
open Go.ChangeShapes Go.WideShapes Go.ChangeAt Go.RowKit
namespace Go.Proofs.YtfhimmnoipfiaaaDoor.eng
open bytes places sets tz rex
def BoolR (W:World) (e:Ending) (w':World):Prop:=∃ r:Bool,e=.returned (.bool r)∧w'=W
def BoolR2 (W:World) (e:Ending) (w':World):Prop:=∃ r s:Bool,e=.returned (.tuple #[.bool r,.bool s])∧w'=W
set_option maxHeartbeats 4000000 in
theorem letter_any (W:World) (c:Int):Calls Tryd.prog 104 #[.int .u8 c] W (BoolR W):=by
 by_cases h1:(97:Int)≤c
 ·have h1':decide ((97:Int)≤c)=true:=decide_eq_true h1
  by_cases h2:c≤(122:Int)
  ·have h2':decide (c≤(122:Int))=true:=decide_eq_true h2
   by_cases h3:(65:Int)≤c
   ·have h3':decide ((65:Int)≤c)=true:=decide_eq_true h3
    by_cases h4:c≤(90:Int)
    ·have h4':decide (c≤(90:Int))=true:=decide_eq_true h4
     exfalso;omega
    ·have h4':decide (c≤(90:Int))=false:=decide_eq_false h4
     by_cases h5:c=(95:Int)
     ·have h5':decide (c=(95:Int))=true:=decide_eq_true h5
      have h5'':(c == (95:Int))=true:=by simp [h5]
      exfalso;omega
     ·have h5':decide (c=(95:Int))=false:=decide_eq_false h5
      have h5'':(c == (95:Int))=false:=by simpa using h5
      go_enter Tryd.func104,Tryd.ntmps104
      go_wp2
      go_ret
      exact ⟨_,rfl,rfl⟩
   ·have h3':decide ((65:Int)≤c)=false:=decide_eq_false h3
    exfalso;omega
  ·have h2':decide (c≤(122:Int))=false:=decide_eq_false h2
   by_cases h3:(65:Int)≤c
   ·have h3':decide ((65:Int)≤c)=true:=decide_eq_true h3
    by_cases h4:c≤(90:Int)
    ·have h4':decide (c≤(90:Int))=true:=decide_eq_true h4
     exfalso;omega
    ·have h4':decide (c≤(90:Int))=false:=decide_eq_false h4
     by_cases h5:c=(95:Int)
     ·have h5':decide (c=(95:Int))=true:=decide_eq_true h5
      have h5'':(c == (95:Int))=true:=by simp [h5]
      exfalso;omega
     ·have h5':decide (c=(95:Int))=false:=decide_eq_false h5
      have h5'':(c == (95:Int))=false:=by simpa using h5
      go_enter Tryd.func104,Tryd.ntmps104
      go_wp2
      go_ret
      exact ⟨_,rfl,rfl⟩
   ·have h3':decide ((65:Int)≤c)=false:=decide_eq_false h3
    exfalso;omega
 ·have h1':decide ((97:Int)≤c)=false:=decide_eq_false h1
  by_cases h2:c≤(122:Int)
  ·have h2':decide (c≤(122:Int))=true:=decide_eq_true h2
   by_cases h3:(65:Int)≤c
   ·have h3':decide ((65:Int)≤c)=true:=decide_eq_true h3
    by_cases h4:c≤(90:Int)
    ·have h4':decide (c≤(90:Int))=true:=decide_eq_true h4
     by_cases h5:c=(95:Int)
     ·have h5':decide (c=(95:Int))=true:=decide_eq_true h5
      have h5'':(c == (95:Int))=true:=by simp [h5]
      exfalso;omega
     ·have h5':decide (c=(95:Int))=false:=decide_eq_false h5
      have h5'':(c == (95:Int))=false:=by simpa using h5
      go_enter Tryd.func104,Tryd.ntmps104
      go_wp2
      go_ret
      exact ⟨_,rfl,rfl⟩
    ·have h4':decide (c≤(90:Int))=false:=decide_eq_false h4
     by_cases h5:c=(95:Int)
     ·have h5':decide (c=(95:Int))=true:=decide_eq_true h5
      have h5'':(c == (95:Int))=true:=by simp [h5]
      go_enter Tryd.func104,Tryd.ntmps104
      go_wp2
      go_ret
      exact ⟨_,rfl,rfl⟩
     ·have h5':decide (c=(95:Int))=false:=decide_eq_false h5
      have h5'':(c == (95:Int))=false:=by simpa using h5
      go_enter Tryd.func104,Tryd.ntmps104
      go_wp2
      go_ret
      exact ⟨_,rfl,rfl⟩
   ·have h3':decide ((65:Int)≤c)=false:=decide_eq_false h3
    by_cases h4:c≤(90:Int)
    ·have h4':decide (c≤(90:Int))=true:=decide_eq_true h4
     by_cases h5:c=(95:Int)
     ·have h5':decide (c=(95:Int))=true:=decide_eq_true h5
      have h5'':(c == (95:Int))=true:=by simp [h5]
      exfalso;omega
     ·have h5':decide (c=(95:Int))=false:=decide_eq_false h5
      have h5'':(c == (95:Int))=false:=by simpa using h5
      go_enter Tryd.func104,Tryd.ntmps104
      go_wp2
      go_ret
      exact ⟨_,rfl,rfl⟩
    ·have h4':decide (c≤(90:Int))=false:=decide_eq_false h4
     exfalso;omega
  ·have h2':decide (c≤(122:Int))=false:=decide_eq_false h2
   exfalso;omega
set_option maxRecDepth 10000 in
set_option maxHeartbeats 8000000 in
theorem class_any (W:World) (S:ByteArray) (c:Int):Calls Tryd.prog 105 #[.string S,.int .u8 c] W (BoolR2 W):=by
 have HD:=hide (digit_any W c)
 obtain ⟨D,hD⟩:∃ D,D=(decide (48≤c) && decide (c≤57)):=⟨_,rfl⟩
 rw [←hD] at HD
 clear hD
 go_enter Tryd.func105,Tryd.ntmps105
 go_upto_region 1 with fail
 go_cut [6] from 9 to 14 (fun v6 wx=>∃ u:Bool,v6=.bool u∧W=wx)
 case first =>
  by_cases k1:(65:Int)≤c
  ·have k1':decide ((65:Int)≤c)=true:=decide_eq_true k1
   by_cases k2:c≤(90:Int)
   ·have k2':decide (c≤(90:Int))=true:=decide_eq_true k2
    go_wp2
    go_meet
    exact ⟨_,rfl,rfl⟩
   ·have k2':decide (c≤(90:Int))=false:=decide_eq_false k2
    go_wp2
    go_meet
    exact ⟨_,rfl,rfl⟩
  ·have k1':decide ((65:Int)≤c)=false:=decide_eq_false k1
   by_cases k2:c≤(90:Int)
   ·have k2':decide (c≤(90:Int))=true:=decide_eq_true k2
    go_wp2
    go_meet
    exact ⟨_,rfl,rfl⟩
   ·have k2':decide (c≤(90:Int))=false:=decide_eq_false k2
    exfalso;omega
 obtain ⟨u,rfl,rfl⟩:=hcut
 go_upto_region 2 with fail
 go_cut [7] from 15 to 20 (fun v7 wx=>∃ u:Bool,v7=.bool u∧W=wx)
 case first =>
  by_cases k1:(97:Int)≤c
  ·have k1':decide ((97:Int)≤c)=true:=decide_eq_true k1
   by_cases k2:c≤(122:Int)
   ·have k2':decide (c≤(122:Int))=true:=decide_eq_true k2
    go_wp2
    go_meet
    exact ⟨_,rfl,rfl⟩
   ·have k2':decide (c≤(122:Int))=false:=decide_eq_false k2
    go_wp2
    go_meet
    exact ⟨_,rfl,rfl⟩
  ·have k1':decide ((97:Int)≤c)=false:=decide_eq_false k1
   by_cases k2:c≤(122:Int)
   ·have k2':decide (c≤(122:Int))=true:=decide_eq_true k2
    go_wp2
    go_meet
    exact ⟨_,rfl,rfl⟩
   ·have k2':decide (c≤(122:Int))=false:=decide_eq_false k2
    exfalso;omega
 obtain ⟨l,rfl,rfl⟩:=hcut
 go_wp2_with fail
 refine HD.out.mono ?_
 rintro e w2 ⟨rfl,rfl⟩
 clear HD
 go_upto_if 24 with fail
 cases hN0:(S.toList == [97,108,112,104,97]) with
 | true =>
  cases u with
  | true =>
   go_wp2
   go_ret2
   exact ⟨_,_,rfl,rfl⟩
  | false =>
   go_wp2
   go_ret2
   exact ⟨_,_,rfl,rfl⟩
 | false =>
  go_upto_if 30 with fail
  cases hN1:(S.toList == [100,105,103,105,116]) with
  | true =>
   go_wp2
   go_ret2
   exact ⟨_,_,rfl,rfl⟩
  | false =>
   go_upto_if 33 with fail
   cases hN2:(S.toList == [97,108,110,117,109]) with
   | true =>
    cases u with
    | true =>
     cases l with
     | true =>
      go_wp2
      go_ret2
      exact ⟨_,_,rfl,rfl⟩
     | false =>
      go_wp2
      go_ret2
      exact ⟨_,_,rfl,rfl⟩
    | false =>
     cases l with
     | true =>
      go_wp2
      go_ret2
      exact ⟨_,_,rfl,rfl⟩
     | false =>
      go_wp2
      go_ret2
      exact ⟨_,_,rfl,rfl⟩
   | false =>
    go_upto_if 42 with fail
    cases hN3:(S.toList == [117,112,112,101,114]) with
    | true =>
     go_wp2
     go_ret2
     exact ⟨_,_,rfl,rfl⟩
    | false =>
     go_upto_if 45 with fail
     cases hN4:(S.toList == [108,111,119,101,114]) with
     | true =>
      go_wp2
      go_ret2
      exact ⟨_,_,rfl,rfl⟩
     | false =>
      go_upto_if 48 with fail
      cases hN5:(S.toList == [98,108,97,110,107]) with
      | true =>
       by_cases k1:c=(32:Int)
       ·have k1':decide (c=(32:Int))=true:=decide_eq_true k1
        have k1'':(c == (32:Int))=true:=by simp [k1]
        go_wp2
        go_ret2
        exact ⟨_,_,rfl,rfl⟩
       ·have k1':decide (c=(32:Int))=false:=decide_eq_false k1
        have k1'':(c == (32:Int))=false:=by simpa using k1
        go_wp2
        go_ret2
        exact ⟨_,_,rfl,rfl⟩
      | false =>
       go_upto_if 56 with fail
       cases hN6:(S.toList == [115,112,97,99,101]) with
       | true =>
        by_cases k1:c=(32:Int)
        ·have k1':decide (c=(32:Int))=true:=decide_eq_true k1
         have k1'':(c == (32:Int))=true:=by simp [k1]
         by_cases k2:(9:Int)≤c
         ·have k2':decide ((9:Int)≤c)=true:=decide_eq_true k2
          go_wp2
          go_ret2
          exact ⟨_,_,rfl,rfl⟩
         ·have k2':decide ((9:Int)≤c)=false:=decide_eq_false k2
          exfalso;omega
        ·have k1':decide (c=(32:Int))=false:=decide_eq_false k1
         have k1'':(c == (32:Int))=false:=by simpa using k1
         by_cases k2:(9:Int)≤c
         ·have k2':decide ((9:Int)≤c)=true:=decide_eq_true k2
          go_wp2
          go_ret2
          exact ⟨_,_,rfl,rfl⟩
         ·have k2':decide ((9:Int)≤c)=false:=decide_eq_false k2
          go_wp2
          go_ret2
          exact ⟨_,_,rfl,rfl⟩
       | false =>
        go_upto_if 68 with fail
        cases hN7:(S.toList == [112,117,110,99,116]) with
        | true =>
         by_cases k1:(32:Int)<c
         ·have k1':decide ((32:Int)<c)=true:=decide_eq_true k1
          by_cases k2:c<(127:Int)
          ·have k2':decide (c<(127:Int))=true:=decide_eq_true k2
           cases u with
           | true =>
            cases l with
            | true =>
             go_wp2
             go_ret2
             exact ⟨_,_,rfl,rfl⟩
            | false =>
             go_wp2
             go_ret2
             exact ⟨_,_,rfl,rfl⟩
           | false =>
            cases l with
            | true =>
             go_wp2
             go_ret2
             exact ⟨_,_,rfl,rfl⟩
            | false =>
             go_wp2
             go_ret2
             exact ⟨_,_,rfl,rfl⟩
          ·have k2':decide (c<(127:Int))=false:=decide_eq_false k2
           cases u with
           | true =>
            cases l with
            | true =>
             go_wp2
             go_ret2
             exact ⟨_,_,rfl,rfl⟩
            | false =>
             go_wp2
             go_ret2
             exact ⟨_,_,rfl,rfl⟩
           | false =>
            cases l with
            | true =>
             go_wp2
             go_ret2
             exact ⟨_,_,rfl,rfl⟩
            | false =>
             go_wp2
             go_ret2
             exact ⟨_,_,rfl,rfl⟩
         ·have k1':decide ((32:Int)<c)=false:=decide_eq_false k1
          by_cases k2:c<(127:Int)
          ·have k2':decide (c<(127:Int))=true:=decide_eq_true k2
           cases u with
           | true =>
            cases l with
            | true =>
             go_wp2
             go_ret2
             exact ⟨_,_,rfl,rfl⟩
            | false =>
             go_wp2
             go_ret2
             exact ⟨_,_,rfl,rfl⟩
           | false =>
            cases l with
            | true =>
             go_wp2
             go_ret2
             exact ⟨_,_,rfl,rfl⟩
            | false =>
             go_wp2
             go_ret2
             exact ⟨_,_,rfl,rfl⟩
          ·have k2':decide (c<(127:Int))=false:=decide_eq_false k2
           exfalso;omega
        | false =>
         go_upto_if 88 with fail
         cases hN8:(S.toList == [120,100,105,103,105,116]) with
         | true =>
          cases D with
          | true =>
           by_cases k1:(97:Int)≤c
           ·have k1':decide ((97:Int)≤c)=true:=decide_eq_true k1
            by_cases k2:c≤(102:Int)
            ·have k2':decide (c≤(102:Int))=true:=decide_eq_true k2
             by_cases k3:(65:Int)≤c
             ·have k3':decide ((65:Int)≤c)=true:=decide_eq_true k3
              go_wp2
              go_ret2
              exact ⟨_,_,rfl,rfl⟩
             ·have k3':decide ((65:Int)≤c)=false:=decide_eq_false k3
              exfalso;omega
            ·have k2':decide (c≤(102:Int))=false:=decide_eq_false k2
             by_cases k3:(65:Int)≤c
             ·have k3':decide ((65:Int)≤c)=true:=decide_eq_true k3
              go_wp2
              go_ret2
              exact ⟨_,_,rfl,rfl⟩
             ·have k3':decide ((65:Int)≤c)=false:=decide_eq_false k3
              exfalso;omega
           ·have k1':decide ((97:Int)≤c)=false:=decide_eq_false k1
            by_cases k2:c≤(102:Int)
            ·have k2':decide (c≤(102:Int))=true:=decide_eq_true k2
             by_cases k3:(65:Int)≤c
             ·have k3':decide ((65:Int)≤c)=true:=decide_eq_true k3
              go_wp2
              go_ret2
              exact ⟨_,_,rfl,rfl⟩
             ·have k3':decide ((65:Int)≤c)=false:=decide_eq_false k3
              go_wp2
              go_ret2
              exact ⟨_,_,rfl,rfl⟩
            ·have k2':decide (c≤(102:Int))=false:=decide_eq_false k2
             exfalso;omega
          | false =>
           by_cases k1:(97:Int)≤c
           ·have k1':decide ((97:Int)≤c)=true:=decide_eq_true k1
            by_cases k2:c≤(102:Int)
            ·have k2':decide (c≤(102:Int))=true:=decide_eq_true k2
             by_cases k3:(65:Int)≤c
             ·have k3':decide ((65:Int)≤c)=true:=decide_eq_true k3
              go_wp2
              go_ret2
              exact ⟨_,_,rfl,rfl⟩
             ·have k3':decide ((65:Int)≤c)=false:=decide_eq_false k3
              exfalso;omega
            ·have k2':decide (c≤(102:Int))=false:=decide_eq_false k2
             by_cases k3:(65:Int)≤c
             ·have k3':decide ((65:Int)≤c)=true:=decide_eq_true k3
              go_wp2
              go_ret2
              exact ⟨_,_,rfl,rfl⟩
             ·have k3':decide ((65:Int)≤c)=false:=decide_eq_false k3
              exfalso;omega
           ·have k1':decide ((97:Int)≤c)=false:=decide_eq_false k1
            by_cases k2:c≤(102:Int)
            ·have k2':decide (c≤(102:Int))=true:=decide_eq_true k2
             by_cases k3:(65:Int)≤c
             ·have k3':decide ((65:Int)≤c)=true:=decide_eq_true k3
              go_wp2
              go_ret2
              exact ⟨_,_,rfl,rfl⟩
             ·have k3':decide ((65:Int)≤c)=false:=decide_eq_false k3
              go_wp2
              go_ret2
              exact ⟨_,_,rfl,rfl⟩
            ·have k2':decide (c≤(102:Int))=false:=decide_eq_false k2
             exfalso;omega
         | false =>
          go_wp2
          go_ret2
          exact ⟨_,_,rfl,rfl⟩
end Go.Proofs.YtfhimmnoipfiaaaDoor.eng
namespace Go.Proofs.YtfhimmnoipfiaaaDoor.eng
open bytes places sets tz rex
def BoolRow (w:World) (D:Nat):Prop:=∃ cur:Array Value,w.heap[D]?=some (.cells cur 4 (0,0))∧cur.size=256∧∀ i,i<256→∃ x:Bool,cur[i]?=some (.bool x)
section
variable {w w' W:World} {D b:Nat} {p q:Pq}
theorem BoolRow.at_ (h:BoolRow w D) {i:Nat} (hi:i<256):∃ x:Bool,w.cell? ⟨D,i,none⟩=some (.bool x):=by
 obtain ⟨cur,h1,h2,h3⟩:=h
 obtain ⟨x,hx⟩:=h3 i hi
 exact ⟨x,by simp [World.cell?,h1,hx]⟩
theorem BoolRow.fz (h:BoolRow w D) (i:Nat):w.frozen? ⟨D,i,none⟩=false:=by
 obtain ⟨cur,h1,_⟩:=h
 simp [World.frozen?,h1]
theorem BoolRow.lt (h:BoolRow w D):D<w.heap.size:=by
 obtain ⟨cur,h1,_⟩:=h
 exact (Array.getElem?_eq_some_iff.1 h1).1
theorem BoolRow.keep (h:BoolRow w D) (e:w'.heap[D]?=w.heap[D]?):BoolRow w' D:=by
 obtain ⟨cur,h1,h2⟩:=h
 exact ⟨cur,e.trans h1,h2⟩
theorem BoolRow.set (h:BoolRow w D) {i:Nat} (hi:i<256) (x:Bool):BoolRow (w.setCell ⟨D,i,none⟩ (.bool x)) D:=by
 obtain ⟨cur,h1,h2,h3⟩:=h
 have e:=heap_setCell_same w D i cur 4 (.bool x) h1
 refine ⟨_,e,by simpa using h2,fun j hj => ?_⟩
 by_cases hij:i=j
 ·subst hij
  exact ⟨x,by simp [h2,hi]⟩
 ·obtain ⟨y,hy⟩:=h3 j hj
  refine ⟨y,?_⟩
  simp [hij,hy]
structure Ms (b D:Nat) (W:World) (q:Pq) (w:World):Prop where
 rd:Rd b W q w
 row:BoolRow w D
 lo:W.heap.size≤D
 b:b<W.heap.size
theorem Ms.grown (h:Ms b D W p w) (hr:Rd b w q w'):Ms b D W q w' :=
 ⟨h.rd.tr hr,h.row.keep (hr.pg.block D h.row.lt (by have:=h.lo;have:=h.b;simp;omega)),h.lo,h.b⟩
theorem Ms.drawn (h:Ms b D W q w) (hd:Drawn w w'):Ms b D W q w':=h.grown ((Rd.refl h.rd.pb).drawn hd)
theorem Ms.is (h:Ms b D W q w) (hL:q.ts.length≤1000) (ha:q.at_≤2000) (S:ByteArray) (hS:S.size≤10):Calls Tryd.prog 61 #[.pointer (some ⟨b,0,none⟩),.string S] w fun e w'=>e=.returned (.bool (q.is S))∧Ms b D W q w' :=
 ((Rd.refl h.rd.pb).is hL ha S hS).mono fun e w' ⟨h1,h2⟩=>⟨h1,h.grown h2⟩
theorem Ms.failx (h:Ms b D W q w) {c:Int} (hc:c≠0) (x:Int):Calls Tryd.prog 40 #[.pointer (some ⟨b,0,none⟩),.int .i64 c,.int .i64 x] w fun e w'=>∃ r:Pq,e=.returned (.tuple #[])∧Ms b D W r w'∧r.code≠0∧r.ts=q.ts∧r.at_=q.at_∧r.ere=q.ere∧r.groups=q.groups∧r.open_=q.open_ :=
 ((Rd.refl h.rd.pb).failx hc x).mono fun e w' ⟨r,h1,h2,h3⟩=>⟨r,h1,h.grown h2,h3⟩
theorem Ms.setAt (h:Ms b D W q w) (n:Nat):Ms b D W { q with at_:=n } (w.setCell ⟨b,1,none⟩ (.int .i64 (n:Int))):=h.grown ⟨h.rd.pb.setAt n,PG.set 1 _⟩
theorem Ms.setRow (h:Ms b D W q w) {i:Nat} (hi:i<256) (x:Bool):Ms b D W q (w.setCell ⟨D,i,none⟩ (.bool x)) :=
 ⟨h.rd.setNew (by have:=h.lo;have:=h.b;omega) h.lo i _,h.row.set hi x,h.lo,h.b⟩
structure Nqm (p q:Pq):Prop where
 nx:Nx p q
 gr:q.groups=p.groups
 le:q.at_≤p.ts.length
def MeR (p:Pq) (b D:Nat) (W:World) (e:Ending) (w':World):Prop:=e=.returned (.tuple #[])∧∃ q,Ms b D W q w'∧Nx p q∧q.groups=p.groups∧q.at_≤p.ts.length∧(q.code=0→p.at_<q.at_)
end
set_option maxRecDepth 10000 in
set_option maxHeartbeats 8000000 in
theorem member_any (p:Pq) (b D:Nat) (W w:World) (h:Ms b D W p w) (hk:p.ts.length≤200) (hts:∀ t∈p.ts,0≤t∧t≤255) (ha:p.at_≤p.ts.length) :
  Calls Tryd.prog 102 #[.pointer (some ⟨b,0,none⟩),.slice (some ⟨D,0,none⟩) 256 256] w (MeR p b D W):=by
 have HL:Hid (p.ts.length≤200∧p.at_≤p.ts.length):=hide ⟨hk,ha⟩
 have HTX:=hide fun (k:Nat) (hlt:k<p.ts.length) (W:World)=>index_text p.ts hts k hlt W
 have HCC:=hide fun (k:Nat)=>getD_bd hts k
 have hS:=strOfNums_size p.ts
 obtain ⟨x0,x1,x2,x3,x5,x6,xf1,xf5,xf6⟩:=h.rd.can
 obtain ⟨T,hT⟩:∃ T,strOfNums p.ts=T:=⟨_,rfl⟩
 rw [hT] at x0 hS HTX
 have HT:=hide hT
 have ms0:=hide h
 have HNp:Hid (Nqm p p):=hide ⟨Nx.refl p,rfl,ha⟩
 clear h hts hk ha hT
 by_cases hat:p.at_<p.ts.length
 ·have a1:¬ (p.ts.length:Int)≤(p.at_:Int):=by omega
  have a2:decide ((p.ts.length:Int)≤(p.at_:Int))=false:=decide_eq_false a1
  have a3:decide (p.ts.length≤p.at_)=false:=decide_eq_false (by omega)
  have HAt:=hide hat
  have HI1:Hid (∀ m,Calls Tryd.prog 61 #[.pointer (some ⟨b,0,none⟩),.string ⟨#[91,46]⟩] (w.drewN m) fun e w'=>e=.returned (.bool (p.is ⟨#[91,46]⟩))∧Ms b D W p w'):=hide fun m=>(ms0.out.drawn ⟨m,rfl⟩).is (by have:=HL.out;omega) (by have:=HL.out;omega) ⟨#[91,46]⟩ (by decide)
  have HI2:Hid (∀ w',Ms b D W p w'→Calls Tryd.prog 61 #[.pointer (some ⟨b,0,none⟩),.string ⟨#[91,61]⟩] w' fun e w'=>e=.returned (.bool (p.is ⟨#[91,61]⟩))∧Ms b D W p w'):=hide fun w' h=>h.is (by have:=HL.out;omega) (by have:=HL.out;omega) ⟨#[91,61]⟩ (by decide)
  have HI3:Hid (∀ w',Ms b D W p w'→Calls Tryd.prog 61 #[.pointer (some ⟨b,0,none⟩),.string ⟨#[91,58]⟩] w' fun e w'=>e=.returned (.bool (p.is ⟨#[91,58]⟩))∧Ms b D W p w'):=hide fun w' h=>h.is (by have:=HL.out;omega) (by have:=HL.out;omega) ⟨#[91,58]⟩ (by decide)
  clear hat
  go_enter Tryd.func102,Tryd.ntmps102
  go_wp2
  go_quiet (fail)
  go_wp2_with fail
  refine (HI1.out _).mono ?_
  rintro e w1 ⟨rfl,ms1'⟩
  have ms1:=hide ms1'
  clear ms1' HI1 x0 x1 x2 x3 x5 x6 xf1 xf5 xf6
  cases hB1:p.is ⟨#[91,46]⟩ with
  | true =>
   clear hB1 HI2 HI3
   have HFx:=hide (ms1.out.failx (c:=4) (by decide) (p.at_:Int))
   go_wp2_with fail
   refine HFx.out.mono ?_
   rintro e wf ⟨qf,rfl,msf,kc,kt,ka,ke,kg,ko⟩
   have HE:Hid (MeR p b D W (.returned (.tuple #[])) wf):=hide ⟨rfl,qf,msf,⟨kt.trans HNp.out.nx.ts,ke.trans HNp.out.nx.ere,ko.trans HNp.out.nx.op,by rw [ka];exact HNp.out.nx.at_,by rw [kg];exact HNp.out.nx.gr,fun e=>absurd e kc⟩,kg.trans HNp.out.gr,by rw [ka];exact HNp.out.le,fun e=>absurd e kc⟩
   clear HFx kc kt ka ke kg ko msf
   go_wp2
   refine bodyPost_ret (results_none rfl _ _ _) rfl ?_
   exact HE.out
  | false =>
   clear hB1
   go_wp2_with fail
   refine (HI2.out _ ms1.out).mono ?_
   rintro e w2 ⟨rfl,ms2'⟩
   have ms2:=hide ms2'
   clear ms2' HI2 ms1
   cases hB2:p.is ⟨#[91,61]⟩ with
   | true =>
    clear hB2 HI3
    have HFx:=hide (ms2.out.failx (c:=4) (by decide) (p.at_:Int))
    go_wp2_with fail
    refine HFx.out.mono ?_
    rintro e wf ⟨qf,rfl,msf,kc,kt,ka,ke,kg,ko⟩
    have HE:Hid (MeR p b D W (.returned (.tuple #[])) wf):=hide ⟨rfl,qf,msf,⟨kt.trans HNp.out.nx.ts,ke.trans HNp.out.nx.ere,ko.trans HNp.out.nx.op,by rw [ka];exact HNp.out.nx.at_,by rw [kg];exact HNp.out.nx.gr,fun e=>absurd e kc⟩,kg.trans HNp.out.gr,by rw [ka];exact HNp.out.le,fun e=>absurd e kc⟩
    clear HFx kc kt ka ke kg ko msf
    go_wp2
    refine bodyPost_ret (results_none rfl _ _ _) rfl ?_
    exact HE.out
   | false =>
    clear hB2
    go_wp2_with fail
    refine (HI3.out _ ms2.out).mono ?_
    rintro e w3 ⟨rfl,ms3'⟩
    have ms3:=hide ms3'
    obtain ⟨x0,x1,x2,x3,x5,x6,xf1,xf5,xf6⟩:=ms3'.rd.can
    rw [HT.out] at x0
    clear ms3' HI3 ms2
    cases hB3:p.is ⟨#[91,58]⟩ with
    | true =>
     have HB3:=hide (is_true hB3)
     clear hB3
     obtain ⟨k2,hk2⟩:∃ k2,k2=p.at_+2:=⟨_,rfl⟩
     have hw2:IntKind.i64.wrap ((p.at_:Int)+2)=(k2:Int):=by rw [IntKind.wrap_i64];have:=HL.out;omega
     have HK2:Hid (k2≤p.ts.length∧p.at_+2=k2):=hide ⟨by have h:=HB3.out.2;rw [hk2];exact h,hk2.symm⟩
     clear hk2
     go_wp2
     go_loopw [5] (fun v5 wr=>∃ k:Nat,k2≤k∧k≤p.ts.length∧v5=.int .i64 (k:Int)∧Hid (Ms b D W p wr)) (fun v5 _=>p.ts.length-(intOf v5).toNat)
     case atStart=>exact ⟨k2,Nat.le_refl _,HK2.out.1,rfl,ms3⟩
     case round =>
      obtain ⟨k,hk2k,hkl,rfl,msk⟩:=hrel
      obtain ⟨y0,y1,y2,y3,y5,y6,yf1,yf5,yf6⟩:=msk.out.rd.can
      rw [HT.out] at y0
      clear x0 x1 x2 x3 x5 x6 xf1 xf5 xf6
      by_cases hkL:k<p.ts.length
      ·have i1:(k:Int)<(p.ts.length:Int):=by omega
       have hix:=HTX.out k hkL
       generalize p.ts.getD k 0=c at hix
       have HLt:=hide (letter_any wr c)
       have hkw:IntKind.i64.wrap ((k:Int)+1)=((k+1:Nat):Int):=by rw [IntKind.wrap_i64];have:=HL.out;omega
       go_wp2_with fail
       refine HLt.out.mono ?_
       rintro e wr ⟨r,rfl,rfl⟩
       clear HLt
       cases r with
       | true =>
        go_wp2
        go_roundw
        case rel=>exact ⟨k+1,by omega,by omega,by simp,msk⟩
        case measure=>simp [intOf];omega
       | false =>
        have s1:(k2:Int)≤(k:Int):=by omega
        have s2:(k:Int)≤(p.ts.length:Int):=by omega
        have hkw2:IntKind.i64.wrap ((k:Int)+2)=((k+2:Nat):Int):=by rw [IntKind.wrap_i64];have:=HL.out;omega
        obtain ⟨nm,hnm⟩:∃ nm,T.extract k2 k=nm:=⟨_,rfl⟩
        have hnm2:T.extract ((k2:Int)).toNat ((k:Int)).toNat=nm:=by rw [←hnm];rfl
        have HCl:=hide fun (W:World) (c:Int)=>class_any W nm c
        have msD:Hid (∀ m,Ms b D W p (wr.drewN m)):=hide fun m=>msk.out.drawn ⟨m,rfl⟩
        go_wp2
        go_quiet (fail)
        go_wp2_with fail
        refine (HCl.out _ _).mono ?_
        rintro e wl2 ⟨r1,r2,rfl,hwl⟩
        have ms5:Hid (Ms b D W p wl2):=hide (by rw [hwl];exact msD.out _)
        obtain ⟨z0,z1,z2,z3,z5,z6,zf1,zf5,zf6⟩:=ms5.out.rd.can
        rw [HT.out] at z0
        clear hwl y0 y1 y2 y3 y5 y6 yf1 yf5 yf6 hnm hnm2
        have HNp:Hid (Nqm p p):=hide ⟨Nx.refl p,rfl,HL.out.2⟩
        cases r2 with
        | false =>
         have HFx:=hide (ms5.out.failx (c:=4) (by decide) (p.at_:Int))
         go_wp2_with fail
         refine HFx.out.mono ?_
         rintro e wf ⟨qf,rfl,msf,kc,kt,ka,ke,kg,ko⟩
         have HE:Hid (MeR p b D W (.returned (.tuple #[])) wf):=hide ⟨rfl,qf,msf,⟨kt.trans HNp.out.nx.ts,ke.trans HNp.out.nx.ere,ko.trans HNp.out.nx.op,by rw [ka];exact HNp.out.nx.at_,by rw [kg];exact HNp.out.nx.gr,fun e=>absurd e kc⟩,kg.trans HNp.out.gr,by rw [ka];exact HNp.out.le,fun e=>absurd e kc⟩
         clear HFx kc kt ka ke kg ko msf
         go_wp2
         refine bodyPost_ret (results_none rfl _ _ _) rfl ?_
         exact HE.out
        | true =>
         by_cases hov:k+2≤p.ts.length
         ·have o1:¬ (p.ts.length:Int)<((k+2:Nat):Int):=by omega
          have o2:decide ((p.ts.length:Int)<((k+2:Nat):Int))=false:=decide_eq_false o1
          have o1':¬ (p.ts.length:Int)<(k:Int)+2:=by omega
          have o2':decide ((p.ts.length:Int)<(k:Int)+2)=false:=decide_eq_false o1'
          have s3:(k:Int)≤(k:Int)+2:=by omega
          have s4:(k:Int)+2≤(p.ts.length:Int):=by omega
          have s3':(k:Int)≤((k+2:Nat):Int):=by omega
          have s4':((k+2:Nat):Int)≤(p.ts.length:Int):=by omega
          obtain ⟨X,eX⟩:∃ X,T.extract k (k+2)=X:=⟨_,rfl⟩
          have eX2:T.extract k ((k:Int)+2).toNat=X:=by rw [←eX];congr 1
          cases hXb:(X.toList == [58,93]) with
          | false =>
           have HFx:=hide (ms5.out.failx (c:=4) (by decide) (p.at_:Int))
           go_wp2_with fail
           refine HFx.out.mono ?_
           rintro e wf ⟨qf,rfl,msf,kc,kt,ka,ke,kg,ko⟩
           have HE:Hid (MeR p b D W (.returned (.tuple #[])) wf):=hide ⟨rfl,qf,msf,⟨kt.trans HNp.out.nx.ts,ke.trans HNp.out.nx.ere,ko.trans HNp.out.nx.op,by rw [ka];exact HNp.out.nx.at_,by rw [kg];exact HNp.out.nx.gr,fun e=>absurd e kc⟩,kg.trans HNp.out.gr,by rw [ka];exact HNp.out.le,fun e=>absurd e kc⟩
           clear HFx kc kt ka ke kg ko msf
           go_wp2
           refine bodyPost_ret (results_none rfl _ _ _) rfl ?_
           exact HE.out
          | true =>
           have HTo:Hid (k+2≤p.ts.length∧p.at_<k+2):=hide ⟨hov,by have:=HK2.out.2;omega⟩
           go_wp2
           go_loopw [9,10,11] (fun v9 _ _ wr=>∃ c:Nat,c≤256∧v9=.int .i64 (c:Int)∧Hid (Ms b D W p wr)) (fun v9 _ _ _=>256-(intOf v9).toNat)
           case atStart=>exact ⟨0,by omega,rfl,ms5⟩
           case round =>
            obtain ⟨c,hc,rfl,msc⟩:=hrel
            clear z0 z1 z2 z3 z5 z6 zf1 zf5 zf6
            obtain ⟨z0,z1,z2,z3,z5,z6,zf1,zf5,zf6⟩:=msc.out.rd.can
            by_cases hcl:c<256
            ·have c1:(c:Int)<256:=by omega
             have cw:IntKind.u8.wrap (c:Int)=(c:Int):=by rw [IntKind.wrap_u8];omega
             have cw1:IntKind.i64.wrap ((c:Int)+1)=((c+1:Nat):Int):=by rw [IntKind.wrap_i64];omega
             obtain ⟨x,hx⟩:=msc.out.row.at_ hcl
             have hxf:=msc.out.row.fz c
             have HS:Hid (∀ v:Bool,Ms b D W p (wr.setCell ⟨D,c,none⟩ (.bool v))):=hide fun v=>msc.out.setRow hcl v
             have HC5:=hide (HCl.out wr (c:Int))
             go_wp2_with fail
             refine HC5.out.mono ?_
             rintro e wr ⟨t1,t2,rfl,rfl⟩
             cases x with
             | true =>
              go_wp2
              go_roundw
              case rel=>exact ⟨c+1,by omega,by simp,hide (HS.out _)⟩
              case measure=>simp [intOf];omega
             | false =>
              go_wp2
              go_roundw
              case rel=>exact ⟨c+1,by omega,by simp,hide (HS.out _)⟩
              case measure=>simp [intOf];omega
            ·have c1:¬ (c:Int)<256:=by omega
             have HE:Hid (MeR p b D W (.returned (.tuple #[])) (wr.setCell ⟨b,1,none⟩ (.int .i64 ((k+2:Nat):Int)))):=hide ⟨rfl,_,msc.out.setAt (k+2),Nx.at p (by have:=HTo.out;omega),rfl,HTo.out.1,fun _=>HTo.out.2⟩
             go_wp2
             refine bodyPost_ret (results_none rfl _ _ _) rfl ?_
             exact HE.out
         ·have o1:(p.ts.length:Int)<((k+2:Nat):Int):=by omega
          have o2:decide ((p.ts.length:Int)<((k+2:Nat):Int))=true:=decide_eq_true o1
          have o1':(p.ts.length:Int)<(k:Int)+2:=by omega
          have o2':decide ((p.ts.length:Int)<(k:Int)+2)=true:=decide_eq_true o1'
          have HFx:=hide (ms5.out.failx (c:=4) (by decide) (p.at_:Int))
          go_wp2_with fail
          refine HFx.out.mono ?_
          rintro e wf ⟨qf,rfl,msf,kc,kt,ka,ke,kg,ko⟩
          have HE:Hid (MeR p b D W (.returned (.tuple #[])) wf):=hide ⟨rfl,qf,msf,⟨kt.trans HNp.out.nx.ts,ke.trans HNp.out.nx.ere,ko.trans HNp.out.nx.op,by rw [ka];exact HNp.out.nx.at_,by rw [kg];exact HNp.out.nx.gr,fun e=>absurd e kc⟩,kg.trans HNp.out.gr,by rw [ka];exact HNp.out.le,fun e=>absurd e kc⟩
          clear HFx kc kt ka ke kg ko msf
          go_wp2
          refine bodyPost_ret (results_none rfl _ _ _) rfl ?_
          exact HE.out
      ·have i1:decide ((k:Int)<(p.ts.length:Int))=false:=by simp;omega
       have i2:¬ (k:Int)<(p.ts.length:Int):=by omega
       have s1:(k2:Int)≤(k:Int):=by omega
       have s2:(k:Int)≤(p.ts.length:Int):=by omega
       have hkw2:IntKind.i64.wrap ((k:Int)+2)=((k+2:Nat):Int):=by rw [IntKind.wrap_i64];have:=HL.out;omega
       obtain ⟨nm,hnm⟩:∃ nm,T.extract k2 k=nm:=⟨_,rfl⟩
       have hnm2:T.extract ((k2:Int)).toNat ((k:Int)).toNat=nm:=by rw [←hnm];rfl
       have HCl:=hide fun (W:World) (c:Int)=>class_any W nm c
       have msD:Hid (∀ m,Ms b D W p (wr.drewN m)):=hide fun m=>msk.out.drawn ⟨m,rfl⟩
       go_wp2
       go_quiet (fail)
       go_wp2_with fail
       refine (HCl.out _ _).mono ?_
       rintro e wl2 ⟨r1,r2,rfl,hwl⟩
       have ms5:Hid (Ms b D W p wl2):=hide (by rw [hwl];exact msD.out _)
       obtain ⟨z0,z1,z2,z3,z5,z6,zf1,zf5,zf6⟩:=ms5.out.rd.can
       rw [HT.out] at z0
       clear hwl y0 y1 y2 y3 y5 y6 yf1 yf5 yf6 hnm hnm2
       have HNp:Hid (Nqm p p):=hide ⟨Nx.refl p,rfl,HL.out.2⟩
       cases r2 with
       | false =>
        have HFx:=hide (ms5.out.failx (c:=4) (by decide) (p.at_:Int))
        go_wp2_with fail
        refine HFx.out.mono ?_
        rintro e wf ⟨qf,rfl,msf,kc,kt,ka,ke,kg,ko⟩
        have HE:Hid (MeR p b D W (.returned (.tuple #[])) wf):=hide ⟨rfl,qf,msf,⟨kt.trans HNp.out.nx.ts,ke.trans HNp.out.nx.ere,ko.trans HNp.out.nx.op,by rw [ka];exact HNp.out.nx.at_,by rw [kg];exact HNp.out.nx.gr,fun e=>absurd e kc⟩,kg.trans HNp.out.gr,by rw [ka];exact HNp.out.le,fun e=>absurd e kc⟩
        clear HFx kc kt ka ke kg ko msf
        go_wp2
        refine bodyPost_ret (results_none rfl _ _ _) rfl ?_
        exact HE.out
       | true =>
        by_cases hov:k+2≤p.ts.length
        ·exfalso;omega
        ·have o1:(p.ts.length:Int)<((k+2:Nat):Int):=by omega
         have o2:decide ((p.ts.length:Int)<((k+2:Nat):Int))=true:=decide_eq_true o1
         have o1':(p.ts.length:Int)<(k:Int)+2:=by omega
         have o2':decide ((p.ts.length:Int)<(k:Int)+2)=true:=decide_eq_true o1'
         have HFx:=hide (ms5.out.failx (c:=4) (by decide) (p.at_:Int))
         go_wp2_with fail
         refine HFx.out.mono ?_
         rintro e wf ⟨qf,rfl,msf,kc,kt,ka,ke,kg,ko⟩
         have HE:Hid (MeR p b D W (.returned (.tuple #[])) wf):=hide ⟨rfl,qf,msf,⟨kt.trans HNp.out.nx.ts,ke.trans HNp.out.nx.ere,ko.trans HNp.out.nx.op,by rw [ka];exact HNp.out.nx.at_,by rw [kg];exact HNp.out.nx.gr,fun e=>absurd e kc⟩,kg.trans HNp.out.gr,by rw [ka];exact HNp.out.le,fun e=>absurd e kc⟩
         clear HFx kc kt ka ke kg ko msf
         go_wp2
         refine bodyPost_ret (results_none rfl _ _ _) rfl ?_
         exact HE.out
    | false =>
     clear hB3
     have hix:=HTX.out p.at_ HAt.out
     have HLw:=hide (HCC.out p.at_)
     have i0:(p.at_:Int)<(p.ts.length:Int):=by have:=HAt.out;omega
     generalize p.ts.getD p.at_ 0=low at hix HLw
     have cwl:IntKind.i64.wrap low=low:=by rw [IntKind.wrap_i64];have:=HLw.out;omega
     obtain ⟨q1,hq1⟩:∃ q1:Pq,q1={ p with at_:=p.at_+1 }:=⟨_,rfl⟩
     have HQ1:Hid (q1.at_=p.at_+1∧q1.ts=p.ts∧q1.groups=p.groups∧Nx p q1):=hide (by rw [hq1];exact ⟨rfl,rfl,rfl,Nx.at p (Nat.le_succ _)⟩)
     have hwa:IntKind.i64.wrap ((p.at_:Int)+1)=(q1.at_:Int):=by rw [IntKind.wrap_i64,HQ1.out.1];have:=HL.out;omega
     have HS1:Hid (∀ m,Ms b D W q1 ((w3.drewN m).setCell ⟨b,1,none⟩ (.int .i64 (q1.at_:Int)))):=hide fun m=>by
      rw [hq1]
      exact (ms3.out.drawn ⟨m,rfl⟩).setAt (p.at_+1)
     clear hq1
     have HLo:Hid (((low.toNat:Nat):Int)=low):=hide (by have:=HLw.out;omega)
     go_wp2
     go_quiet (fail)
     go_upto_region 22 with fail
     generalize hV:(w3.drewN nq).setCell ⟨b,1,none⟩ (.int .i64 (q1.at_:Int))=V
     have ms1:Hid (Ms b D W q1 V):=hide (by rw [←hV];exact HS1.out _)
     clear hV
     clear x0 x1 x2 x3 x5 x6 xf1 xf5 xf6 HS1 hwa
     obtain ⟨x0,x1,x2,x3,x5,x6,xf1,xf5,xf6⟩:=ms1.out.rd.can
     rw [HQ1.out.2.1,HT.out] at x0
     have HI:=hide fun (m:Nat)=>(is_any q1 b (V.drewN m) (ms1.out.rd.pb.drawn ⟨m,rfl⟩) (by rw [HQ1.out.2.1];have:=HL.out;omega) (by rw [HQ1.out.1];have:=HL.out;omega) ⟨#[45]⟩ (by decide))
     obtain ⟨k2,hk2⟩:∃ k2,k2=q1.at_+1:=⟨_,rfl⟩
     have HK2:=hide hk2
     have hwk:IntKind.i64.wrap ((q1.at_:Int)+1)=(k2:Int):=by rw [IntKind.wrap_i64,hk2,HQ1.out.1];have:=HL.out;omega
     clear hk2
     have ONE1:Hid (∀ m,Ms b D W q1 (V.drewN m)):=hide fun m=>ms1.out.drawn ⟨m,rfl⟩
     cases hB:q1.is ⟨#[45]⟩ with
     | false =>
      rw [hB] at HI
      clear hB
      obtain ⟨qz,hqz⟩:∃ qz:Pq,qz=q1:=⟨_,rfl⟩
      have HNqz:Hid (Nqm p qz):=hide (by rw [hqz];exact ⟨HQ1.out.2.2.2,HQ1.out.2.2.1,by rw [HQ1.out.1];have:=HAt.out;omega⟩)
      have HFar:Hid (p.at_<qz.at_):=hide (by rw [hqz,HQ1.out.1];omega)
      have ONEz:Hid (∀ m,Ms b D W qz (V.drewN m)):=hide (by rw [hqz];exact ONE1.out)
      clear hqz
      go_quiet ((go_at_call 61;exact Calls.quiet_of (HI.out _)))
      go_upto_if 203 with fail
      generalize hZ:V.drewN _=VZ
      have msZ:Hid (Ms b D W qz VZ):=hide (by rw [←hZ];exact ONEz.out _)
      have HHi:=hide HLw.out
      clear hZ
      by_cases hhl:low<low
      ·have d1:decide (low<low)=true:=decide_eq_true hhl
       exfalso;omega
      ·have d1:decide (low<low)=false:=decide_eq_false hhl
       go_wp2
       go_loopw [14] (fun v14 wr=>∃ c:Nat,v14=.int .i64 (c:Int)∧Hid (Ms b D W qz wr∧(c:Int)≤low+1)) (fun v14 _=>300-(intOf v14).toNat)
       case atStart=>exact ⟨low.toNat,by rw [HLo.out],hide ⟨msZ.out,by have:=HLo.out;omega⟩⟩
       case round =>
        obtain ⟨c,rfl,msc⟩:=hrel
        by_cases hcl:(c:Int)≤low
        ·have d2:(c:Int)≤low:=hcl
         have hc9:c<256:=by have:=HHi.out;omega
         have c9:(c:Int)<256:=by omega
         have cw1:IntKind.i64.wrap ((c:Int)+1)=((c+1:Nat):Int):=by rw [IntKind.wrap_i64];omega
         have hxf:=msc.out.1.row.fz c
         obtain ⟨x,hx⟩:=msc.out.1.row.at_ hc9
         have HS:Hid (∀ v:Bool,Ms b D W qz (wr.setCell ⟨D,c,none⟩ (.bool v))∧((c+1:Nat):Int)≤low+1):=hide fun v=>⟨msc.out.1.setRow hc9 v,by omega⟩
         go_wp2
         go_roundw
         case rel=>exact ⟨c+1,by simp,hide (HS.out _)⟩
         case measure=>simp [intOf];omega
        ·have d2:¬ (c:Int)≤low:=hcl
         have HE:Hid (MeR p b D W (.returned (.tuple #[])) wr):=hide ⟨rfl,qz,msc.out.1,HNqz.out.nx,HNqz.out.gr,HNqz.out.le,fun _=>HFar.out⟩
         go_wp2
         go_end0
         exact HE.out
     | true =>
      rw [hB] at HI
      have HB:=hide (is_true hB).2
      clear hB
      by_cases hkl:k2<p.ts.length
      ·have j1:(k2:Int)<(p.ts.length:Int):=by omega
       have hix2:=HTX.out k2 hkl
       have HHw:=hide (HCC.out k2)
       generalize p.ts.getD k2 0=hg at hix2 HHw
       have cwh:IntKind.i64.wrap hg=hg:=by rw [IntKind.wrap_i64];have:=HHw.out;omega
       by_cases h93:hg=93
       ·have e1:(hg == 93)=true:=by simp [h93]
        have e2:decide (hg=93)=true:=decide_eq_true h93
        obtain ⟨qz,hqz⟩:∃ qz:Pq,qz=q1:=⟨_,rfl⟩
        have HNqz:Hid (Nqm p qz):=hide (by rw [hqz];exact ⟨HQ1.out.2.2.2,HQ1.out.2.2.1,by rw [HQ1.out.1];have:=HAt.out;omega⟩)
        have HFar:Hid (p.at_<qz.at_):=hide (by rw [hqz,HQ1.out.1];omega)
        have ONEz:Hid (∀ m,Ms b D W qz (V.drewN m)):=hide (by rw [hqz];exact ONE1.out)
        clear hqz
        go_quiet ((go_at_call 61;exact Calls.quiet_of (HI.out _)))
        go_upto_if 203 with fail
        generalize hZ:V.drewN _=VZ
        have msZ:Hid (Ms b D W qz VZ):=hide (by rw [←hZ];exact ONEz.out _)
        have HHi:=hide HLw.out
        clear hZ
        by_cases hhl:low<low
        ·have d1:decide (low<low)=true:=decide_eq_true hhl
         exfalso;omega
        ·have d1:decide (low<low)=false:=decide_eq_false hhl
         go_wp2
         go_loopw [14] (fun v14 wr=>∃ c:Nat,v14=.int .i64 (c:Int)∧Hid (Ms b D W qz wr∧(c:Int)≤low+1)) (fun v14 _=>300-(intOf v14).toNat)
         case atStart=>exact ⟨low.toNat,by rw [HLo.out],hide ⟨msZ.out,by have:=HLo.out;omega⟩⟩
         case round =>
          obtain ⟨c,rfl,msc⟩:=hrel
          by_cases hcl:(c:Int)≤low
          ·have d2:(c:Int)≤low:=hcl
           have hc9:c<256:=by have:=HHi.out;omega
           have c9:(c:Int)<256:=by omega
           have cw1:IntKind.i64.wrap ((c:Int)+1)=((c+1:Nat):Int):=by rw [IntKind.wrap_i64];omega
           have hxf:=msc.out.1.row.fz c
           obtain ⟨x,hx⟩:=msc.out.1.row.at_ hc9
           have HS:Hid (∀ v:Bool,Ms b D W qz (wr.setCell ⟨D,c,none⟩ (.bool v))∧((c+1:Nat):Int)≤low+1):=hide fun v=>⟨msc.out.1.setRow hc9 v,by omega⟩
           go_wp2
           go_roundw
           case rel=>exact ⟨c+1,by simp,hide (HS.out _)⟩
           case measure=>simp [intOf];omega
          ·have d2:¬ (c:Int)≤low:=hcl
           have HE:Hid (MeR p b D W (.returned (.tuple #[])) wr):=hide ⟨rfl,qz,msc.out.1,HNqz.out.nx,HNqz.out.gr,HNqz.out.le,fun _=>HFar.out⟩
           go_wp2
           go_end0
           exact HE.out
       ·have e1:(hg == 93)=false:=by simpa using h93
        have e2:decide (hg=93)=false:=decide_eq_false h93
        obtain ⟨qz,hqz⟩:∃ qz:Pq,qz={ q1 with at_:=q1.at_+2 }:=⟨_,rfl⟩
        have hwz:IntKind.i64.wrap ((q1.at_:Int)+2)=(qz.at_:Int):=by rw [IntKind.wrap_i64,hqz];show _=((q1.at_+2:Nat):Int);rw [HQ1.out.1];have:=HL.out;omega
        have HSz:Hid (∀ m,Ms b D W qz ((V.drewN m).setCell ⟨b,1,none⟩ (.int .i64 (qz.at_:Int)))):=hide fun m=>by
         rw [hqz]
         exact (ONE1.out m).setAt (q1.at_+2)
        have HNqz:Hid (Nqm p qz):=hide (by rw [hqz];exact ⟨HQ1.out.2.2.2.tr (Nx.at q1 (Nat.le_add_right _ _)),HQ1.out.2.2.1,by show q1.at_+2≤_;have:=HK2.out;omega⟩)
        have HFar:Hid (p.at_<qz.at_):=hide (by rw [hqz];show _<q1.at_+2;rw [HQ1.out.1];omega)
        clear hqz h93
        go_quiet ((go_at_call 61;exact Calls.quiet_of (HI.out _)))
        go_wp2
        go_quiet (fail)
        go_upto_if 203 with fail
        generalize hZ:(V.drewN _).setCell ⟨b,1,none⟩ (.int .i64 (qz.at_:Int))=VZ
        have msZ:Hid (Ms b D W qz VZ):=hide (by rw [←hZ];exact HSz.out _)
        have HHi:=hide HHw.out
        clear hZ
        by_cases hhl:hg<low
        ·have d1:decide (hg<low)=true:=decide_eq_true hhl
         have HFx:=hide (msZ.out.failx (c:=5) (by decide) (p.at_:Int))
         go_wp2_with fail
         refine HFx.out.mono ?_
         rintro e wf ⟨qf,rfl,msf,kc,kt,ka,ke,kg,ko⟩
         have HE:Hid (MeR p b D W (.returned (.tuple #[])) wf):=hide ⟨rfl,qf,msf,⟨kt.trans HNqz.out.nx.ts,ke.trans HNqz.out.nx.ere,ko.trans HNqz.out.nx.op,by rw [ka];exact HNqz.out.nx.at_,by rw [kg];exact HNqz.out.nx.gr,fun e=>absurd e kc⟩,kg.trans HNqz.out.gr,by rw [ka];exact HNqz.out.le,fun e=>absurd e kc⟩
         clear HFx kc kt ka ke kg ko msf
         go_wp2
         refine bodyPost_ret (results_none rfl _ _ _) rfl ?_
         exact HE.out
        ·have d1:decide (hg<low)=false:=decide_eq_false hhl
         go_wp2
         go_loopw [14] (fun v14 wr=>∃ c:Nat,v14=.int .i64 (c:Int)∧Hid (Ms b D W qz wr∧(c:Int)≤hg+1)) (fun v14 _=>300-(intOf v14).toNat)
         case atStart=>exact ⟨low.toNat,by rw [HLo.out],hide ⟨msZ.out,by have:=HLo.out;omega⟩⟩
         case round =>
          obtain ⟨c,rfl,msc⟩:=hrel
          by_cases hcl:(c:Int)≤hg
          ·have d2:(c:Int)≤hg:=hcl
           have hc9:c<256:=by have:=HHi.out;omega
           have c9:(c:Int)<256:=by omega
           have cw1:IntKind.i64.wrap ((c:Int)+1)=((c+1:Nat):Int):=by rw [IntKind.wrap_i64];omega
           have hxf:=msc.out.1.row.fz c
           obtain ⟨x,hx⟩:=msc.out.1.row.at_ hc9
           have HS:Hid (∀ v:Bool,Ms b D W qz (wr.setCell ⟨D,c,none⟩ (.bool v))∧((c+1:Nat):Int)≤hg+1):=hide fun v=>⟨msc.out.1.setRow hc9 v,by omega⟩
           go_wp2
           go_roundw
           case rel=>exact ⟨c+1,by simp,hide (HS.out _)⟩
           case measure=>simp [intOf];omega
          ·have d2:¬ (c:Int)≤hg:=hcl
           have HE:Hid (MeR p b D W (.returned (.tuple #[])) wr):=hide ⟨rfl,qz,msc.out.1,HNqz.out.nx,HNqz.out.gr,HNqz.out.le,fun _=>HFar.out⟩
           go_wp2
           go_end0
           exact HE.out
      ·have j1:decide ((k2:Int)<(p.ts.length:Int))=false:=by simp;omega
       obtain ⟨qz,hqz⟩:∃ qz:Pq,qz=q1:=⟨_,rfl⟩
       have HNqz:Hid (Nqm p qz):=hide (by rw [hqz];exact ⟨HQ1.out.2.2.2,HQ1.out.2.2.1,by rw [HQ1.out.1];have:=HAt.out;omega⟩)
       have HFar:Hid (p.at_<qz.at_):=hide (by rw [hqz,HQ1.out.1];omega)
       have ONEz:Hid (∀ m,Ms b D W qz (V.drewN m)):=hide (by rw [hqz];exact ONE1.out)
       clear hqz
       go_quiet ((go_at_call 61;exact Calls.quiet_of (HI.out _)))
       go_upto_if 203 with fail
       generalize hZ:V.drewN _=VZ
       have msZ:Hid (Ms b D W qz VZ):=hide (by rw [←hZ];exact ONEz.out _)
       have HHi:=hide HLw.out
       clear hZ
       by_cases hhl:low<low
       ·have d1:decide (low<low)=true:=decide_eq_true hhl
        exfalso;omega
       ·have d1:decide (low<low)=false:=decide_eq_false hhl
        go_wp2
        go_loopw [14] (fun v14 wr=>∃ c:Nat,v14=.int .i64 (c:Int)∧Hid (Ms b D W qz wr∧(c:Int)≤low+1)) (fun v14 _=>300-(intOf v14).toNat)
        case atStart=>exact ⟨low.toNat,by rw [HLo.out],hide ⟨msZ.out,by have:=HLo.out;omega⟩⟩
        case round =>
         obtain ⟨c,rfl,msc⟩:=hrel
         by_cases hcl:(c:Int)≤low
         ·have d2:(c:Int)≤low:=hcl
          have hc9:c<256:=by have:=HHi.out;omega
          have c9:(c:Int)<256:=by omega
          have cw1:IntKind.i64.wrap ((c:Int)+1)=((c+1:Nat):Int):=by rw [IntKind.wrap_i64];omega
          have hxf:=msc.out.1.row.fz c
          obtain ⟨x,hx⟩:=msc.out.1.row.at_ hc9
          have HS:Hid (∀ v:Bool,Ms b D W qz (wr.setCell ⟨D,c,none⟩ (.bool v))∧((c+1:Nat):Int)≤low+1):=hide fun v=>⟨msc.out.1.setRow hc9 v,by omega⟩
          go_wp2
          go_roundw
          case rel=>exact ⟨c+1,by simp,hide (HS.out _)⟩
          case measure=>simp [intOf];omega
         ·have d2:¬ (c:Int)≤low:=hcl
          have HE:Hid (MeR p b D W (.returned (.tuple #[])) wr):=hide ⟨rfl,qz,msc.out.1,HNqz.out.nx,HNqz.out.gr,HNqz.out.le,fun _=>HFar.out⟩
          go_wp2
          go_end0
          exact HE.out
 ·have a1:(p.ts.length:Int)≤(p.at_:Int):=by omega
  have a2:decide ((p.ts.length:Int)≤(p.at_:Int))=true:=decide_eq_true a1
  have a3:decide (p.ts.length≤p.at_)=true:=decide_eq_true (by omega)
  have HFm:Hid (∀ m,Calls Tryd.prog 40 #[.pointer (some ⟨b,0,none⟩),.int .i64 4,.int .i64 (p.at_:Int)] (w.drewN m) fun e w'=>∃ r:Pq,e=.returned (.tuple #[])∧Ms b D W r w'∧r.code≠0∧r.ts=p.ts∧r.at_=p.at_∧r.ere=p.ere∧r.groups=p.groups∧r.open_=p.open_):=hide fun m=>(ms0.out.drawn ⟨m,rfl⟩).failx (c:=4) (by decide) (p.at_:Int)
  clear hat
  go_enter Tryd.func102,Tryd.ntmps102
  go_wp2
  go_quiet (fail)
  go_wp2_with fail
  refine (HFm.out _).mono ?_
  rintro e wf ⟨qf,rfl,msf,kc,kt,ka,ke,kg,ko⟩
  have HE:Hid (MeR p b D W (.returned (.tuple #[])) wf):=hide ⟨rfl,qf,msf,⟨kt.trans HNp.out.nx.ts,ke.trans HNp.out.nx.ere,ko.trans HNp.out.nx.op,by rw [ka];exact HNp.out.nx.at_,by rw [kg];exact HNp.out.nx.gr,fun e=>absurd e kc⟩,kg.trans HNp.out.gr,by rw [ka];exact HNp.out.le,fun e=>absurd e kc⟩
  clear HFm kc kt ka ke kg ko msf
  go_wp2
  refine bodyPost_ret (results_none rfl _ _ _) rfl ?_
  exact HE.out
end Go.Proofs.YtfhimmnoipfiaaaDoor.eng
namespace Go.Proofs.YtfhimmnoipfiaaaDoor.pile
open bytes
def RdA (w:World) (v:Value) (ys:List Int):Prop:=Rd w v ys∧∀ n c,v=.slice none n c→v=.slice none 0 0
theorem Own.rdA {w:World} {base:Nat} {v:Value} {xs:List Int} (h:Own w base v xs):RdA w v xs:=by
 refine ⟨h.rd,fun n c e => ?_⟩
 obtain ⟨_,h1,⟨rfl,h2⟩|⟨g,cap,cur,rfl,_⟩⟩:=h
 ·rfl
 ·simp at e
theorem RdA.below {w w':World} {B:Nat} {v:Value} {xs:List Int} (h:RdA w v xs) (hb:Below B w w') (hB:w.heap.size≤B):RdA w' v xs:=⟨h.1.below hb hB,h.2⟩
theorem add_at (b off i:Nat):(⟨b,off,none⟩:Addr).add i=⟨b,off+i,none⟩:=by
 unfold Addr.add
 split
 ·rename_i h;subst h;rfl
 ·rfl
theorem wpList_append_rd {P:Program} (w:World) {ops:Array Oper} {rest:List Oper} {o:Oper} {a:Act} {Q:Exit→Act→World→Prop} (hgd:o.guard=none) (s x:Operand) (t:TypeId)
  (ho:o.op=.call { callee:=.builtin .append,args:=#[s,x],argTypes:=#[t,t] }) (ht:P.underlying t=some (.slice 5))
  (hi:(P.info? 5).map (fun i=>(i.zero,i.size,i.bytes))=some (some (.int .u8 0),1,1))
  (base:Nat) (v:Value) (xs:List Int) (hs:a.eval s=v) (hown:Own w base v xs) (u:Value) (ys:List Int) (hx:a.eval x=u) (hr:RdA w u ys)
  (hlen:xs.length+ys.length≤140737488355328) (hbase:base≤w.heap.size)
  (h:∀ v' w',Own w' base v' (xs++ys)→w.grownBy w' v.ownBlock→wpList P ops Q rest (a.put o.dst v') w'):wpList P ops Q (o::rest) a w:=by
 obtain ⟨i0,hi1,hz0,hz1,hz2⟩:=info_parts hi
 obtain ⟨⟨ao,cap,rfl,h1,h2,h3,h4⟩,hnil⟩:=hr
 have hall:∀ y∈xs++ys,0≤y∧y≤255:=by
  intro y hy
  rcases List.mem_append.1 hy with hy | hy
  ·exact hown.1 y hy
  ·exact h3 y hy
 cases ao with
 | none =>
  have e:=hnil _ _ rfl
  simp only [Value.slice.injEq,true_and] at e
  have hys:ys=[]:=List.length_eq_zero_iff.1 e.1
  subst hys
  obtain rfl:cap=0:=e.2
  refine wpList_append_own_none hgd s x t ho base 5 i0 1 ht hi1 v xs.length _ hs hown.2 hx ?_
  have:=h v w (by simpa using hown) (World.grownBy.refl _ _)
  exact this
 | some ad =>
  refine wpList_append_own w hgd s x t ho base 5 i0 (.int .u8 0) 1 1 ht hi1 hz0 hz1 hz2 rfl (by decide) v xs.length _ hs hown.2 ad ys.length cap (ys.map (Value.int .u8)) hx (by simp) ?_ ?_ (by unfold maxLen;omega) (by omega) hbase ?_
  ·intro j y hy
   simp only [List.getElem?_map,Option.map_eq_some_iff] at hy
   obtain ⟨z,hz,rfl⟩:=hy
   have hj:j<ys.length:=(List.getElem?_eq_some_iff.1 hz).1
   obtain ⟨b,off,e,hc⟩:=h4 (by omega)
   simp only [Option.some.injEq] at e
   subst e
   rw [add_at,hc j hj]
   simp [List.getD_eq_getElem?_getD,hz]
  ·intro y hy
   obtain ⟨z,_,rfl⟩:=List.mem_map.1 hy
   rfl
  ·intro v' w' hown' hgrow _
   refine h v' w' ⟨hall,?_⟩ hgrow
   rw [List.length_append,List.map_append]
   exact hown'
def RdS (w:World) (p:Value) (us:List Value):Prop :=
 ∃ ao cap,p=.slice ao us.length cap∧us.length≤cap∧cap≤maxLen ∧
  (0<us.length→∃ b off,ao=some ⟨b,off,none⟩∧∀ i,i<us.length→w.cell? ⟨b,off+i,none⟩=some (us.getD i (.slice none 0 0)))
theorem RdS.below {w w':World} {B:Nat} {v:Value} {us:List Value} (h:RdS w v us) (hb:Below B w w') (hB:w.heap.size≤B):RdS w' v us:=by
 obtain ⟨ao,cap,rfl,h1,h2,h4⟩:=h
 refine ⟨ao,cap,rfl,h1,h2,fun hp => ?_⟩
 obtain ⟨b,off,rfl,hc⟩:=h4 hp
 exact ⟨b,off,rfl,fun i hi=>(hb.cell (by have:=cell_lt (hc i hi);simp at this ⊢;omega)).trans (hc i hi)⟩
def Texts (w:World) (us:List Value) (xss:List (List Int)):Prop:=us.length=xss.length∧∀ i,i<us.length→RdA w (us.getD i (.slice none 0 0)) (xss.getD i [])
theorem Texts.below {w w':World} {B:Nat} {us:List Value} {xss:List (List Int)} (h:Texts w us xss) (hb:Below B w w') (hB:w.heap.size≤B):Texts w' us xss:=⟨h.1,fun i hi=>(h.2 i hi).below hb hB⟩
def sizeTo (xss:List (List Int)) (k:Nat):Nat:=(xss.take k).flatten.length
theorem flat_succ {xss:List (List Int)} {k:Nat} (h:k<xss.length):(xss.take (k+1)).flatten=(xss.take k).flatten++xss.getD k []:=by
 have e:xss.getD k []=xss[k]:=by simp [List.getD_eq_getElem?_getD,h]
 rw [List.take_succ_eq_append_getElem h,List.flatten_append,e]
 simp only [List.flatten_cons,List.flatten_nil,List.append_nil]
theorem sizeTo_succ {xss:List (List Int)} {k:Nat} (h:k<xss.length):sizeTo xss (k+1)=sizeTo xss k+(xss.getD k []).length:=by
 unfold sizeTo
 rw [flat_succ h,List.length_append]
theorem sizeTo_le (xss:List (List Int)) (k:Nat):sizeTo xss k≤xss.flatten.length:=by
 unfold sizeTo
 have:xss.flatten=(xss.take k).flatten++(xss.drop k).flatten:=by rw [←List.flatten_append,List.take_append_drop]
 rw [this];simp
end Go.Proofs.YtfhimmnoipfiaaaDoor.pile
namespace Go.Proofs.YtfhimmnoipfiaaaDoor.eng
open bytes pile places sets tz rex
theorem run_str {w:World} {u:Value} {ys:List Int} (h:RdA w u ys):(convert 22 9 u).run Tryd.prog w=.ok (.string (strOfNums ys)) w:=by
 have he:strOfNums ys=⟨(ys.map fun y=>UInt8.ofNat y.toNat).toArray⟩:=by simp [strOfNums]
 rw [he]
 obtain ⟨⟨ao,cap,rfl,h1,h2,h3,h4⟩,hnil⟩:=h
 cases ao with
 | none =>
  have e:=hnil _ _ rfl
  simp only [Value.slice.injEq,true_and] at e
  have hys:ys=[]:=List.length_eq_zero_iff.1 e.1
  subst hys
  exact Lib.run_convert_nil_bytes w 22 9 5 cap Tryd.underlying22 Tryd.underlying5 Tryd.underlying9
 | some ad =>
  have hl:(ys.map fun y=>UInt8.ofNat y.toNat).length=ys.length:=by simp
  have:=run_convert_bytes_back (P:=Tryd.prog) w 22 9 5 ad cap (ys.map fun y=>UInt8.ofNat y.toNat) Tryd.underlying22 Tryd.underlying5 Tryd.underlying9 (fun j hj=>by
   rw [hl] at hj
   obtain ⟨b,off,e,hc⟩:=h4 (by omega)
   simp only [Option.some.injEq] at e
   subst e
   rw [add_at,hc j hj]
   have hb:=h3 _ (List.getElem_mem hj)
   have hmod:(UInt8.ofNat (ys[j]).toNat).toNat=(ys[j]).toNat:=by
    simp
    omega
   simp only [List.getElem_map,hmod,List.getD_eq_getElem?_getD,List.getElem?_eq_getElem hj,Option.getD_some]
   congr 2
   omega)
  rw [hl] at this
  exact this
theorem one_rd (w:World) (c:Int) (h0:0≤c) (h9:c≤255):RdA (w.alloc (.cells #[.int .u8 c] 5)) (.slice (some ⟨w.heap.size,0,none⟩) 1 1) [c]:=by
 refine ⟨⟨_,1,rfl,Nat.le_refl _,by decide,fun x hx => ?_,fun _=>⟨w.heap.size,0,rfl,fun i hi => ?_⟩⟩,fun n c h=>by simp at h⟩
 ·simp only [List.mem_singleton] at hx
  subst hx
  exact ⟨h0,h9⟩
 ·have:i=0:=by simpa using hi
  subst this
  have e:=heap_alloc_new w (.cells #[.int .u8 c] 5)
  generalize w.alloc (.cells #[.int .u8 c] 5)=w' at e ⊢
  simp [World.cell?,e]
theorem Ms.app {b D:Nat} {W w w2:World} {q:Pq} {row:Option Nat} (h:Ms b D W q w) (hg:w.grownBy w2 row) (hr:∀ k,row=some k→D<k):Ms b D W q w2:=by
 have hb:=h.b
 have hlo:=h.lo
 have hlt:=h.row.lt
 have hbl:=h.rd.pb.lt
 have hs:=h.rd.pg.size
 refine ⟨⟨h.rd.pb.keep (hg.block b hbl fun e=>by have:=hr b e.symm;omega),⟨hg.os.trans h.rd.pg.os,hg.tape.trans h.rd.pg.tape,hg.output.trans h.rd.pg.output,Nat.le_trans hs hg.size,fun k hk hn => ?_⟩⟩,h.row.keep (hg.block D hlt fun e=>by have:=hr D e.symm;omega),hlo,hb⟩
 exact (hg.block k (by omega) fun e=>by have:=hr k e.symm;omega).trans (h.rd.pg.block k hk hn)
theorem Ms.alloc {b D:Nat} {W w:World} {q:Pq} (h:Ms b D W q w) (o:Obj):Ms b D W q (w.alloc o):=h.grown ((Rd.refl h.rd.pb).alloc o)
theorem own_keep {w w':World} {base b:Nat} {v:Value} {s:List Int} (h:bytes.Own w base v s) (hg:PG b w w') (hb:b<base):bytes.Own w' base v s:=by
 refine ⟨h.1,h.2.1,?_⟩
 rcases h.2.2 with h0 | ⟨g,cap,cur,h1,h2,h3,h4⟩
 ·exact .inl h0
 ·exact .inr ⟨g,cap,cur,h1,h2,(hg.block g (Array.getElem?_eq_some_iff.1 h3).1 (by simp;omega)).trans h3,h4⟩
end Go.Proofs.YtfhimmnoipfiaaaDoor.eng

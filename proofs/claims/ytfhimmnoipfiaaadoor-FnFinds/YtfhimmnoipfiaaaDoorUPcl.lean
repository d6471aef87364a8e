import Derived.Test.YtfhimmnoipfiaaaDoorQ08
import Derived.Deep.DeepCutAuto
namespace Go.Proofs.YtfhimmnoipfiaaaDoor.eng
open Go.ChangeShapes Go.WideShapes Go.ChangeAt Go.RowKit
open bytes places sets tz rex
set_option linter.unusedVariables false
def BoolR (W:World) (e:Ending) (w':World):Prop:=∃ r:Bool,e=.returned (.bool r)∧w'=W
def BoolR2 (W:World) (e:Ending) (w':World):Prop:=∃ r s:Bool,e=.returned (.tuple #[.bool r,.bool s])∧w'=W
set_option maxHeartbeats 4000000 in
theorem letter_any (W:World) (c:Int):Calls Tryd.prog 104 #[.int .u8 c] W (BoolR W):=by
 by_cases h1:(97:Int)≤c
 ·have h1':decide ((97:Int)≤c)=true:=decide_eq_true h1
  by_cases h2:c≤(122:Int)
  ·have h2':decide (c≤(122:Int))=true:=decide_eq_true h2
   by_cases h3:(65:Int)≤c
   ·have h3':decide ((65:Int)≤c)=true:=decide_eq_true h3
    by_cases h4:c≤(90:Int)
    ·have h4':decide (c≤(90:Int))=true:=decide_eq_true h4
     exfalso;omega
    ·have h4':decide (c≤(90:Int))=false:=decide_eq_false h4
     by_cases h5:c=(95:Int)
     ·have h5':decide (c=(95:Int))=true:=decide_eq_true h5
      have h5'':(c == (95:Int))=true:=by simp [h5]
      exfalso;omega
     ·have h5':decide (c=(95:Int))=false:=decide_eq_false h5
      have h5'':(c == (95:Int))=false:=by simpa using h5
      go_enter Tryd.func104,Tryd.ntmps104
      go_wp2
      go_ret
      exact ⟨_,rfl,rfl⟩
   ·have h3':decide ((65:Int)≤c)=false:=decide_eq_false h3
    exfalso;omega
  ·have h2':decide (c≤(122:Int))=false:=decide_eq_false h2
   by_cases h3:(65:Int)≤c
   ·have h3':decide ((65:Int)≤c)=true:=decide_eq_true h3
    by_cases h4:c≤(90:Int)
    ·have h4':decide (c≤(90:Int))=true:=decide_eq_true h4
     exfalso;omega
    ·have h4':decide (c≤(90:Int))=false:=decide_eq_false h4
     by_cases h5:c=(95:Int)
     ·have h5':decide (c=(95:Int))=true:=decide_eq_true h5
      have h5'':(c == (95:Int))=true:=by simp [h5]
      exfalso;omega
     ·have h5':decide (c=(95:Int))=false:=decide_eq_false h5
      have h5'':(c == (95:Int))=false:=by simpa using h5
      go_enter Tryd.func104,Tryd.ntmps104
      go_wp2
      go_ret
      exact ⟨_,rfl,rfl⟩
   ·have h3':decide ((65:Int)≤c)=false:=decide_eq_false h3
    exfalso;omega
 ·have h1':decide ((97:Int)≤c)=false:=decide_eq_false h1
  by_cases h2:c≤(122:Int)
  ·have h2':decide (c≤(122:Int))=true:=decide_eq_true h2
   by_cases h3:(65:Int)≤c
   ·have h3':decide ((65:Int)≤c)=true:=decide_eq_true h3
    by_cases h4:c≤(90:Int)
    ·have h4':decide (c≤(90:Int))=true:=decide_eq_true h4
     by_cases h5:c=(95:Int)
     ·have h5':decide (c=(95:Int))=true:=decide_eq_true h5
      have h5'':(c == (95:Int))=true:=by simp [h5]
      exfalso;omega
     ·have h5':decide (c=(95:Int))=false:=decide_eq_false h5
      have h5'':(c == (95:Int))=false:=by simpa using h5
      go_enter Tryd.func104,Tryd.ntmps104
      go_wp2
      go_ret
      exact ⟨_,rfl,rfl⟩
    ·have h4':decide (c≤(90:Int))=false:=decide_eq_false h4
     by_cases h5:c=(95:Int)
     ·have h5':decide (c=(95:Int))=true:=decide_eq_true h5
      have h5'':(c == (95:Int))=true:=by simp [h5]
      go_enter Tryd.func104,Tryd.ntmps104
      go_wp2
      go_ret
      exact ⟨_,rfl,rfl⟩
     ·have h5':decide (c=(95:Int))=false:=decide_eq_false h5
      have h5'':(c == (95:Int))=false:=by simpa using h5
      go_enter Tryd.func104,Tryd.ntmps104
      go_wp2
      go_ret
      exact ⟨_,rfl,rfl⟩
   ·have h3':decide ((65:Int)≤c)=false:=decide_eq_false h3
    by_cases h4:c≤(90:Int)
    ·have h4':decide (c≤(90:Int))=true:=decide_eq_true h4
     by_cases h5:c=(95:Int)
     ·have h5':decide (c=(95:Int))=true:=decide_eq_true h5
      have h5'':(c == (95:Int))=true:=by simp [h5]
      exfalso;omega
     ·have h5':decide (c=(95:Int))=false:=decide_eq_false h5
      have h5'':(c == (95:Int))=false:=by simpa using h5
      go_enter Tryd.func104,Tryd.ntmps104
      go_wp2
      go_ret
      exact ⟨_,rfl,rfl⟩
    ·have h4':decide (c≤(90:Int))=false:=decide_eq_false h4
     exfalso;omega
  ·have h2':decide (c≤(122:Int))=false:=decide_eq_false h2
   exfalso;omega
set_option maxRecDepth 10000 in
set_option maxHeartbeats 8000000 in
theorem class_any (W:World) (S:ByteArray) (c:Int):Calls Tryd.prog 105 #[.string S,.int .u8 c] W (BoolR2 W):=by
 have HD:=hide (digit_any W c)
 obtain ⟨D,hD⟩:∃ D,D=(decide (48≤c) && decide (c≤57)):=⟨_,rfl⟩
 rw [←hD] at HD
 clear hD
 go_enter Tryd.func105,Tryd.ntmps105
 go_upto_region 1 with fail
 go_cut [6] from 9 to 14 (fun v6 wx=>∃ u:Bool,v6=.bool u∧W=wx)
 case first =>
  by_cases k1:(65:Int)≤c
  ·have k1':decide ((65:Int)≤c)=true:=decide_eq_true k1
   by_cases k2:c≤(90:Int)
   ·have k2':decide (c≤(90:Int))=true:=decide_eq_true k2
    go_wp2
    go_meet
    exact ⟨_,rfl,rfl⟩
   ·have k2':decide (c≤(90:Int))=false:=decide_eq_false k2
    go_wp2
    go_meet
    exact ⟨_,rfl,rfl⟩
  ·have k1':decide ((65:Int)≤c)=false:=decide_eq_false k1
   by_cases k2:c≤(90:Int)
   ·have k2':decide (c≤(90:Int))=true:=decide_eq_true k2
    go_wp2
    go_meet
    exact ⟨_,rfl,rfl⟩
   ·have k2':decide (c≤(90:Int))=false:=decide_eq_false k2
    exfalso;omega
 obtain ⟨u,rfl,rfl⟩:=hcut
 go_upto_region 2 with fail
 go_cut [7] from 15 to 20 (fun v7 wx=>∃ u:Bool,v7=.bool u∧W=wx)
 case first =>
  by_cases k1:(97:Int)≤c
  ·have k1':decide ((97:Int)≤c)=true:=decide_eq_true k1
   by_cases k2:c≤(122:Int)
   ·have k2':decide (c≤(122:Int))=true:=decide_eq_true k2
    go_wp2
    go_meet
    exact ⟨_,rfl,rfl⟩
   ·have k2':decide (c≤(122:Int))=false:=decide_eq_false k2
    go_wp2
    go_meet
    exact ⟨_,rfl,rfl⟩
  ·have k1':decide ((97:Int)≤c)=false:=decide_eq_false k1
   by_cases k2:c≤(122:Int)
   ·have k2':decide (c≤(122:Int))=true:=decide_eq_true k2
    go_wp2
    go_meet
    exact ⟨_,rfl,rfl⟩
   ·have k2':decide (c≤(122:Int))=false:=decide_eq_false k2
    exfalso;omega
 obtain ⟨l,rfl,rfl⟩:=hcut
 go_wp2_with fail
 refine HD.out.mono ?_
 rintro e w2 ⟨rfl,rfl⟩
 clear HD
 go_upto_if 24 with fail
 cases hN0:(S.toList == [97,108,112,104,97]) with
 | true =>
  cases u with
  | true =>
   go_wp2
   go_ret2
   exact ⟨_,_,rfl,rfl⟩
  | false =>
   go_wp2
   go_ret2
   exact ⟨_,_,rfl,rfl⟩
 | false =>
  go_upto_if 30 with fail
  cases hN1:(S.toList == [100,105,103,105,116]) with
  | true =>
   go_wp2
   go_ret2
   exact ⟨_,_,rfl,rfl⟩
  | false =>
   go_upto_if 33 with fail
   cases hN2:(S.toList == [97,108,110,117,109]) with
   | true =>
    cases u with
    | true =>
     cases l with
     | true =>
      go_wp2
      go_ret2
      exact ⟨_,_,rfl,rfl⟩
     | false =>
      go_wp2
      go_ret2
      exact ⟨_,_,rfl,rfl⟩
    | false =>
     cases l with
     | true =>
      go_wp2
      go_ret2
      exact ⟨_,_,rfl,rfl⟩
     | false =>
      go_wp2
      go_ret2
      exact ⟨_,_,rfl,rfl⟩
   | false =>
    go_upto_if 42 with fail
    cases hN3:(S.toList == [117,112,112,101,114]) with
    | true =>
     go_wp2
     go_ret2
     exact ⟨_,_,rfl,rfl⟩
    | false =>
     go_upto_if 45 with fail
     cases hN4:(S.toList == [108,111,119,101,114]) with
     | true =>
      go_wp2
      go_ret2
      exact ⟨_,_,rfl,rfl⟩
     | false =>
      go_upto_if 48 with fail
      cases hN5:(S.toList == [98,108,97,110,107]) with
      | true =>
       by_cases k1:c=(32:Int)
       ·have k1':decide (c=(32:Int))=true:=decide_eq_true k1
        have k1'':(c == (32:Int))=true:=by simp [k1]
        go_wp2
        go_ret2
        exact ⟨_,_,rfl,rfl⟩
       ·have k1':decide (c=(32:Int))=false:=decide_eq_false k1
        have k1'':(c == (32:Int))=false:=by simpa using k1
        go_wp2
        go_ret2
        exact ⟨_,_,rfl,rfl⟩
      | false =>
       go_upto_if 56 with fail
       cases hN6:(S.toList == [115,112,97,99,101]) with
       | true =>
        by_cases k1:c=(32:Int)
        ·have k1':decide (c=(32:Int))=true:=decide_eq_true k1
         have k1'':(c == (32:Int))=true:=by simp [k1]
         by_cases k2:(9:Int)≤c
         ·have k2':decide ((9:Int)≤c)=true:=decide_eq_true k2
          go_wp2
          go_ret2
          exact ⟨_,_,rfl,rfl⟩
         ·have k2':decide ((9:Int)≤c)=false:=decide_eq_false k2
          exfalso;omega
        ·have k1':decide (c=(32:Int))=false:=decide_eq_false k1
         have k1'':(c == (32:Int))=false:=by simpa using k1
         by_cases k2:(9:Int)≤c
         ·have k2':decide ((9:Int)≤c)=true:=decide_eq_true k2
          go_wp2
          go_ret2
          exact ⟨_,_,rfl,rfl⟩
         ·have k2':decide ((9:Int)≤c)=false:=decide_eq_false k2
          go_wp2
          go_ret2
          exact ⟨_,_,rfl,rfl⟩
       | false =>
        go_upto_if 68 with fail
        cases hN7:(S.toList == [112,117,110,99,116]) with
        | true =>
         by_cases k1:(32:Int)<c
         ·have k1':decide ((32:Int)<c)=true:=decide_eq_true k1
          by_cases k2:c<(127:Int)
          ·have k2':decide (c<(127:Int))=true:=decide_eq_true k2
           cases u with
           | true =>
            cases l with
            | true =>
             go_wp2
             go_ret2
             exact ⟨_,_,rfl,rfl⟩
            | false =>
             go_wp2
             go_ret2
             exact ⟨_,_,rfl,rfl⟩
           | false =>
            cases l with
            | true =>
             go_wp2
             go_ret2
             exact ⟨_,_,rfl,rfl⟩
            | false =>
             go_wp2
             go_ret2
             exact ⟨_,_,rfl,rfl⟩
          ·have k2':decide (c<(127:Int))=false:=decide_eq_false k2
           cases u with
           | true =>
            cases l with
            | true =>
             go_wp2
             go_ret2
             exact ⟨_,_,rfl,rfl⟩
            | false =>
             go_wp2
             go_ret2
             exact ⟨_,_,rfl,rfl⟩
           | false =>
            cases l with
            | true =>
             go_wp2
             go_ret2
             exact ⟨_,_,rfl,rfl⟩
            | false =>
             go_wp2
             go_ret2
             exact ⟨_,_,rfl,rfl⟩
         ·have k1':decide ((32:Int)<c)=false:=decide_eq_false k1
          by_cases k2:c<(127:Int)
          ·have k2':decide (c<(127:Int))=true:=decide_eq_true k2
           cases u with
           | true =>
            cases l with
            | true =>
             go_wp2
             go_ret2
             exact ⟨_,_,rfl,rfl⟩
            | false =>
             go_wp2
             go_ret2
             exact ⟨_,_,rfl,rfl⟩
           | false =>
            cases l with
            | true =>
             go_wp2
             go_ret2
             exact ⟨_,_,rfl,rfl⟩
            | false =>
             go_wp2
             go_ret2
             exact ⟨_,_,rfl,rfl⟩
          ·have k2':decide (c<(127:Int))=false:=decide_eq_false k2
           exfalso;omega
        | false =>
         go_upto_if 88 with fail
         cases hN8:(S.toList == [120,100,105,103,105,116]) with
         | true =>
          cases D with
          | true =>
           by_cases k1:(97:Int)≤c
           ·have k1':decide ((97:Int)≤c)=true:=decide_eq_true k1
            by_cases k2:c≤(102:Int)
            ·have k2':decide (c≤(102:Int))=true:=decide_eq_true k2
             by_cases k3:(65:Int)≤c
             ·have k3':decide ((65:Int)≤c)=true:=decide_eq_true k3
              go_wp2
              go_ret2
              exact ⟨_,_,rfl,rfl⟩
             ·have k3':decide ((65:Int)≤c)=false:=decide_eq_false k3
              exfalso;omega
            ·have k2':decide (c≤(102:Int))=false:=decide_eq_false k2
             by_cases k3:(65:Int)≤c
             ·have k3':decide ((65:Int)≤c)=true:=decide_eq_true k3
              go_wp2
              go_ret2
              exact ⟨_,_,rfl,rfl⟩
             ·have k3':decide ((65:Int)≤c)=false:=decide_eq_false k3
              exfalso;omega
           ·have k1':decide ((97:Int)≤c)=false:=decide_eq_false k1
            by_cases k2:c≤(102:Int)
            ·have k2':decide (c≤(102:Int))=true:=decide_eq_true k2
             by_cases k3:(65:Int)≤c
             ·have k3':decide ((65:Int)≤c)=true:=decide_eq_true k3
              go_wp2
              go_ret2
              exact ⟨_,_,rfl,rfl⟩
             ·have k3':decide ((65:Int)≤c)=false:=decide_eq_false k3
              go_wp2
              go_ret2
              exact ⟨_,_,rfl,rfl⟩
            ·have k2':decide (c≤(102:Int))=false:=decide_eq_false k2
             exfalso;omega
          | false =>
           by_cases k1:(97:Int)≤c
           ·have k1':decide ((97:Int)≤c)=true:=decide_eq_true k1
            by_cases k2:c≤(102:Int)
            ·have k2':decide (c≤(102:Int))=true:=decide_eq_true k2
             by_cases k3:(65:Int)≤c
             ·have k3':decide ((65:Int)≤c)=true:=decide_eq_true k3
              go_wp2
              go_ret2
              exact ⟨_,_,rfl,rfl⟩
             ·have k3':decide ((65:Int)≤c)=false:=decide_eq_false k3
              exfalso;omega
            ·have k2':decide (c≤(102:Int))=false:=decide_eq_false k2
             by_cases k3:(65:Int)≤c
             ·have k3':decide ((65:Int)≤c)=true:=decide_eq_true k3
              go_wp2
              go_ret2
              exact ⟨_,_,rfl,rfl⟩
             ·have k3':decide ((65:Int)≤c)=false:=decide_eq_false k3
              exfalso;omega
           ·have k1':decide ((97:Int)≤c)=false:=decide_eq_false k1
            by_cases k2:c≤(102:Int)
            ·have k2':decide (c≤(102:Int))=true:=decide_eq_true k2
             by_cases k3:(65:Int)≤c
             ·have k3':decide ((65:Int)≤c)=true:=decide_eq_true k3
              go_wp2
              go_ret2
              exact ⟨_,_,rfl,rfl⟩
             ·have k3':decide ((65:Int)≤c)=false:=decide_eq_false k3
              go_wp2
              go_ret2
              exact ⟨_,_,rfl,rfl⟩
            ·have k2':decide (c≤(102:Int))=false:=decide_eq_false k2
             exfalso;omega
         | false =>
          go_wp2
          go_ret2
          exact ⟨_,_,rfl,rfl⟩
end Go.Proofs.YtfhimmnoipfiaaaDoor.eng

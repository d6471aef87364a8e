import Derived.Test.YtfhimmnoipfiaaaDoorURxo
import Derived.Test.YtfhimmnoipfiaaaDoorULaw4
import Derived.Test.YtfhimmnoipfiaaaDoorCards
import Derived.Test.YtfhimmnoipfiaaaDoorTie
import Derived.OpenShut
import Derived.ShutString
import Derived.ChangeOld
import Derived.Deep.DeepHandedRow
import Derived.Lib.LaidTab
import Derived.ChangeVars
namespace Go.Proofs.YtfhimmnoipfiaaaDoor.crd
open Go.ChangeShapes Go.WideShapes Go.ChangeAt Go.RowKit
open Go.ChangeMaps (open_string shut_string)
open bytes pile tz eng
set_option linter.unusedVariables false
theorem own:ownKnob Tryd.prog.godebug=none:=by kernel_rfl
theorem laidOut:laidOutB Tryd.prog=true:=by kernel_rfl
def IsRow (k:IntKind) (w:World) (a:Option Addr) (len cap:Nat) (zs:List Int):Prop :=
 (a=none∧len=0∧cap=0∧zs=[]) ∨
 ∃ x,a=some x∧len≤cap∧cap≤maxLen∧zs.length=cap∧(∀ i,i<zs.length→w.cell? (x.add i)=some (.int k (zs.getD i 0)))∧∀ n∈zs,(Lit.int k n).wf=true
theorem rd_of_row {w:World} {a:Option Addr} {len cap:Nat} {zs:List Int} (h:IsRow .u8 w a len cap zs):∃ xs:List Int,bytes.Rd w (.slice a len cap) xs∧xs.length=len:=by
 rcases h with ⟨rfl,rfl,rfl,rfl⟩|⟨x,rfl,hl,hm,hz,hcell,hwz⟩
 ·exact ⟨[],⟨none,0,rfl,by simp,by simp [maxLen],by simp,by simp⟩,rfl⟩
 ·have hlen:(zs.take len).length=len:=by simp;omega
  refine ⟨zs.take len,⟨some x,cap,by rw [hlen],by omega,hm,?_,fun hp => ?_⟩,hlen⟩
  ·intro y hy
   have:=hwz y (List.mem_of_mem_take hy)
   simpa [Lit.wf,IntKind.min,IntKind.max,IntKind.signed,IntKind.bits] using this
  ·obtain ⟨b,off,spot⟩:=x
   have hc:=hcell 0 (by omega)
   have hspot:spot=none:=by simpa [Addr.add] using World.cell?_spot hc
   subst hspot
   refine ⟨b,off,rfl,fun i hi => ?_⟩
   have:=hcell i (by omega)
   have hadd:(⟨b,off,none⟩:Addr).add i=⟨b,off+i,none⟩:=by
    unfold Addr.add
    split
    ·rename_i h;subst h;rfl
    ·rfl
   rw [hadd] at this
   rw [this]
   have hi':i<len:=by omega
   simp [List.getD_eq_getElem?_getD,hi']
theorem le_max_of {w:World} {v:Value} {xs:List Int} (h:bytes.Rd w v xs):xs.length≤maxLen:=by
 obtain ⟨ao,cap,_,h1,h2,_⟩:=h
 omega
theorem rdA_of_row {w:World} {a:Option Addr} {len cap:Nat} {zs:List Int} (h:IsRow .u8 w a len cap zs):∃ xs:List Int,RdA w (.slice a len cap) xs∧xs.length=len:=by
 obtain ⟨xs,hr,hl⟩:=rd_of_row h
 refine ⟨xs,⟨hr,fun n c e => ?_⟩,hl⟩
 simp only [Value.slice.injEq] at e
 obtain ⟨rfl,rfl,rfl⟩:=e
 rcases h with ⟨_,rfl,rfl,_⟩|⟨x,hx,_⟩
 ·rfl
 ·simp at hx
theorem gTab : Tryd.prog.globalNamed "math/bits.deBruijn64tab" = some 0 := by kernel_rfl
theorem gTabType:(Tryd.prog.globals[0]?).map (·.type)=some 129:=by kernel_rfl
theorem cells129:Tryd.prog.cellsOf 129=64:=by kernel_rfl
theorem cells5:Tryd.prog.cellsOf 5=1:=by kernel_rfl
def tabZ:List Int:=tabL.map fun (n:Nat)=>(n:Int)
theorem tab_of_laid {W : World} (h : laidMet Tryd.prog [("math/bits.deBruijn64tab", Lib.tabData .u8 tabZ)] W) : TabIn W := by
 have hT:=Lib.tabIs_of_head gTab gTabType Tryd.underlying129 Tryd.underlying5 cells5 cells129 h
 intro j hj
 rw [hT.cell gTab j (by show j<tabZ.length;exact hj)]
 have e:tabZ.getD j 0=((tabL.getD j 0:Nat):Int):=by
  unfold tabZ
  rw [List.getD_eq_getElem?_getD,List.getD_eq_getElem?_getD,List.getElem?_map]
  cases tabL[j]? <;> rfl
 rw [e]
set_option maxRecDepth 20000 in
set_option maxHeartbeats 4000000 in
theorem over3 (w:World) (a1 a2:Option Addr) (n1 k1 n2 k2:Nat) (h:1048576<n1∨1048576<n2) (m1:n1≤maxLen) (m2:n2≤maxLen):Calls Tryd.prog 3 #[.slice a1 n1 k1,.slice a2 n2 k2] w fun e w'=>e=.returned (.bool true)∧Below w.heap.size w w':=by
 by_cases h1:1048576<n1
 ·have l1:(1048576:Int)<(n1:Int):=by omega
  clear h h1 m1 m2
  go_enter Tryd.func3,Tryd.ntmps3
  go_wp2
  go_ret
  exact ⟨rfl,Below.refl _ _⟩
 ·have l1:¬ (1048576:Int)<(n1:Int):=by omega
  have l2:(1048576:Int)<(n2:Int):=by omega
  clear h h1 m1 m2
  go_enter Tryd.func3,Tryd.ntmps3
  go_wp2
  go_ret
  exact ⟨rfl,Below.refl _ _⟩
set_option maxRecDepth 20000 in
set_option maxHeartbeats 4000000 in
theorem over4 (w:World) (a1 a2:Option Addr) (n1 k1 n2 k2:Nat) (h:1048576<n1∨1048576<n2) (m1:n1≤maxLen) (m2:n2≤maxLen):Calls Tryd.prog 4 #[.slice a1 n1 k1,.slice a2 n2 k2] w fun e w'=>e=.returned (.bool true)∧Below w.heap.size w w':=by
 by_cases h1:1048576<n1
 ·have l1:(1048576:Int)<(n1:Int):=by omega
  clear h h1 m1 m2
  go_enter Tryd.func4,Tryd.ntmps4
  go_wp2
  go_ret
  exact ⟨rfl,Below.refl _ _⟩
 ·have l1:¬ (1048576:Int)<(n1:Int):=by omega
  have l2:(1048576:Int)<(n2:Int):=by omega
  clear h h1 m1 m2
  go_enter Tryd.func4,Tryd.ntmps4
  go_wp2
  go_ret
  exact ⟨rfl,Below.refl _ _⟩
def lays (cs:Array Value):Obj→Obj
 | .cells _ t frozen=>.cells cs t frozen
 | o=>o
noncomputable def laidWorld (os:Os):World :=
 { World.holding Tryd.prog os ⟨#[],#[],[]⟩ with heap:=(World.holding Tryd.prog os ⟨#[],#[],[]⟩).heap.modify 0 (lays (tabZ.map (Value.int .u8)).toArray) }
end Go.Proofs.YtfhimmnoipfiaaaDoor.crd

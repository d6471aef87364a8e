import Derived.Test.YtfhimmnoipfiaaaDoorUDrw
import Derived.Deep.DeepCutAuto
import Derived.Deep.CutRange
namespace Go.Proofs.YtfhimmnoipfiaaaDoor.drw
open Go.ChangeShapes Go.WideShapes Go.ChangeAt Go.RowKit
open bytes pile src letters
set_option linter.unusedVariables false
def PatAt (deep L C BM:Nat):Prop:=∀ (ere:Bool) (w0 w:World) (d:Nat) (ao:Option Addr) (cap:Nat) (xs:List Int) (m:Nat),Dw w0 d ao cap xs m w→m≤BM →
 Calls Tryd.prog 43 #[.pointer (some ⟨d,0,none⟩),.bool ere,.int .i64 (deep:Int)] w fun e w'=>∃ S:ByteArray,S.size≤L∧e=.returned (.string S)∧Dw w0 d ao cap xs (m+C) w'
theorem size_add (a b:ByteArray):(a++b).size=a.size+b.size:=ByteArray.size_append
structure Lp (w0:World) (d:Nat) (ao:Option Addr) (cap:Nat) (xs:List Int) (n c:Nat) (S:ByteArray) (w:World):Prop where
 len:S.size≤n
 dw:Dw w0 d ao cap xs c w
end Go.Proofs.YtfhimmnoipfiaaaDoor.drw

/- Segments told of messages, bundles and interchanges. -/
import Derived.Test.YtphgheojfnlgjaaDoorRowIx
import Derived.Test.YtphgheojfnlgjaaDoorOwnB
import Derived.Test.YtphgheojfnlgjaaDoorDecD
namespace Go.Proofs.YtphgheojfnlgjaaDoor
open Go.ChangeShapes Go.WideShapes Go.ChangeAt Go.RowKit
/-- A segment whose elements have one part each. -/
def hdS (tag : ByteArray) (ws : List ByteArray) : Seg := (tag, ws.map fun t => [t])
def tMSH : ByteArray := ⟨#[77, 83, 72]⟩
def tMST : ByteArray := ⟨#[77, 83, 84]⟩
def tGRH : ByteArray := ⟨#[71, 82, 72]⟩
def tGRT : ByteArray := ⟨#[71, 82, 84]⟩
def tIXH : ByteArray := ⟨#[73, 88, 72]⟩
def tIXT : ByteArray := ⟨#[73, 88, 84]⟩
def msgSegs (m : Msg) : List Seg := hdS tMSH [decS m.num] :: (m.body ++ [hdS tMST [decS m.body.length, decS m.num]])
def bunSegs (b : Bun) : List Seg := hdS tGRH [decS b.kind, decS b.num] :: (b.msgs.flatMap msgSegs ++ [hdS tGRT [decS b.msgs.length, decS b.num]])
def ixSegs (x : Ixc) : List Seg := hdS tIXH [x.frm, x.to, decS x.num] :: (x.buns.flatMap bunSegs ++ [hdS tIXT [decS x.buns.length, decS x.num]])
end Go.Proofs.YtphgheojfnlgjaaDoor

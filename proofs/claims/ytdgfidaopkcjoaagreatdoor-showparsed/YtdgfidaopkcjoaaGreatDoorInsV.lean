/- An instruction as a value. -/
import Derived.Test.YtdgfidaopkcjoaaGreatDoorFldCtc
namespace Go.Proofs.YtdgfidaopkcjoaaGreatDoor
def insCells (x : Pp.Ins) : List Value := [.int .i64 (x.op : Int), .int .i64 x.n, .string ⟨x.a.toArray⟩, .string ⟨x.b.toArray⟩]
def insV (x : Pp.Ins) : Value := .agg #[.int .i64 (x.op : Int), .int .i64 x.n, .string ⟨x.a.toArray⟩, .string ⟨x.b.toArray⟩]
end Go.Proofs.YtdgfidaopkcjoaaGreatDoor

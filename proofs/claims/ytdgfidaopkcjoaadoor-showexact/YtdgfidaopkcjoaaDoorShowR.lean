/- What show's writer says of a class. -/
import Derived.Test.YtdgfidaopkcjoaaDoorShowRff
import Derived.Test.YtdgfidaopkcjoaaDoorShowRft
import Derived.Test.YtdgfidaopkcjoaaDoorShowRtf
import Derived.Test.YtdgfidaopkcjoaaDoorShowRtt
namespace Go.Proofs.YtdgfidaopkcjoaaDoor
open Go.RowKit
set_option linter.unusedVariables false
set_option linter.unusedSimpArgs false

theorem wclass_any (W : World) (b : Nat) (c : Pp.XCls) (ys : List Value) (hm : ClsX W c ys) (hok : Pp.clsB c = true) (l : List UInt8) (v : Value) (w : World) (hw : Sh.Wr W.heap.size w b l v) (ht : Sh.Tabs W.heap.size w) (hbw : Below W.heap.size W w) (hle : l.length + (Pp.wordsT (Sh.clsF c)).length ≤ 1000000000) :
    Calls Tryd.prog 21 #[.pointer (some ⟨b, 0, none⟩), .agg ys.toArray] w fun e w' => e = .returned (.tuple #[]) ∧ (∃ v', Sh.Wr W.heap.size w' b (l ++ Pp.wordsT (Sh.clsF c)) v') ∧ Sh.Ke W.heap.size w w' := by
  by_cases h1 : c.super = []
  · by_cases h2 : c.ifaces = []
    · exact wclass_ff W b c ys hm hok h1 h2 l v w hw ht hbw hle
    · exact wclass_ft W b c ys hm hok h1 h2 l v w hw ht hbw hle
  · by_cases h2 : c.ifaces = []
    · exact wclass_tf W b c ys hm hok h1 h2 l v w hw ht hbw hle
    · exact wclass_tt W b c ys hm hok h1 h2 l v w hw ht hbw hle

end Go.Proofs.YtdgfidaopkcjoaaDoor

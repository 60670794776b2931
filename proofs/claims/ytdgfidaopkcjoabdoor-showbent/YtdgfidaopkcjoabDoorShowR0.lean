/- What show's writer says of a class. -/
import Derived.Test.YtdgfidaopkcjoabDoorShowQ
namespace Go.Proofs.YtdgfidaopkcjoabDoor
open Go.RowKit
set_option linter.unusedVariables false
set_option linter.unusedSimpArgs false

namespace Sh
def nmW (s : Pp.Bs) : List Pp.Wd := [Pp.nm s]
def clsF (c : Pp.XCls) : List Pp.Wd := Pp.clsW c.toP
theorem cls_words (c : Pp.XCls) : Pp.wordsT (clsF c) = Pp.sayL [if c.iface = true then Pp.wInterface else Pp.wClass, c.name] ++ ((if c.super = [] then [] else Pp.sayL [Pp.wExtends, c.super]) ++ ((if c.ifaces = [] then [] else Pp.sayL [if c.iface = true then Pp.wExtends else Pp.wImplements]) ++ (Pp.wordsT (Pp.commaW nmW c.ifaces) ++ (Pp.sayL [Pp.wLB] ++ (Pp.wordsT (Pp.manyW Pp.fldW c.fields) ++ (Pp.wordsT (Pp.manyW mthF c.methods) ++ Pp.sayL [Pp.wRB])))))) := by
  obtain ⟨n, ic, su, ifs, fs, ms⟩ := c
  have e : Pp.manyW Pp.mthW (ms.map Pp.XMth.toP) = Pp.manyW mthF ms := many_map _ _ _
  unfold clsF Pp.clsW Pp.supW Pp.ifsW
  simp only [Pp.XCls.toP, Pp.wordsT_app, e]
  by_cases h1 : su = []
  · by_cases h2 : ifs = []
    · subst h1 h2; simp [Pp.wordsT, Pp.sayL, wtx_nm, wtx_sg, Pp.commaW]; rfl
    · subst h1; simp [Pp.wordsT, Pp.sayL, wtx_nm, wtx_sg, h2]; rfl
  · by_cases h2 : ifs = []
    · subst h2; simp [Pp.wordsT, Pp.sayL, wtx_nm, wtx_sg, Pp.commaW, h1]; rfl
    · simp [Pp.wordsT, Pp.sayL, wtx_nm, wtx_sg, h1, h2]; rfl
end Sh

end Go.Proofs.YtdgfidaopkcjoabDoor

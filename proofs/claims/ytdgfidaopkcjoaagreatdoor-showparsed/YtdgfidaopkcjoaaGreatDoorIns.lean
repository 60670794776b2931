/- What instr answers. -/
import Derived.Test.YtdgfidaopkcjoaaGreatDoorIns0
import Derived.Test.YtdgfidaopkcjoaaGreatDoorIns1
import Derived.Test.YtdgfidaopkcjoaaGreatDoorIns2
import Derived.Test.YtdgfidaopkcjoaaGreatDoorIns3
namespace Go.Proofs.YtdgfidaopkcjoaaGreatDoor
open Go.RowKit
set_option linter.unusedVariables false

theorem opN_lt (s : List UInt8) : opN s < 44 := by
  unfold opN
  cases h : Pp.opL s with
  | none => decide
  | some k =>
    have := List.findIdx?_eq_some_iff_getElem.1 h
    exact this.1
theorem instr_run {C : Cx} {s : Pp.St} (hq : Pp.has C.ws s Pp.isInstr = true) : Pp.instr.run C.ws s = (Pp.instrOf (opN (nowT C.tk s).text)).run C.ws s.adv := by
  rw [Pp.instr, run_yes hq]; rfl
theorem instr_any {w : World} {b : Nat} {C : Cx} {s : Pp.St} (h : Rd w b C s) (hq : Pp.has C.ws s Pp.isInstr = true) :
    Calls Tryz.prog 94 #[.pointer (some ⟨b, 0, none⟩)] w fun e w' => e = .returned (insV (Pp.instr.run C.ws s).1) ∧ Rd w' b C (Pp.instr.run C.ws s).2 ∧ Fr [b] w w' := by
  rw [instr_run hq]
  have hlt := opN_lt (nowT C.tk s).text
  match hk : opN (nowT C.tk s).text, hlt with
  | 0, _ => exact instr_0 h hq hk
  | 1, _ => exact instr_1 h hq hk
  | 2, _ => exact instr_2 h hq hk
  | 3, _ => exact instr_3 h hq hk
  | 4, _ => exact instr_4 h hq hk
  | 5, _ => exact instr_5 h hq hk
  | 6, _ => exact instr_6 h hq hk
  | 7, _ => exact instr_7 h hq hk
  | 8, _ => exact instr_8 h hq hk
  | 9, _ => exact instr_9 h hq hk
  | 10, _ => exact instr_10 h hq hk
  | 11, _ => exact instr_11 h hq hk
  | 12, _ => exact instr_12 h hq hk
  | 13, _ => exact instr_13 h hq hk
  | 14, _ => exact instr_14 h hq hk
  | 15, _ => exact instr_15 h hq hk
  | 16, _ => exact instr_16 h hq hk
  | 17, _ => exact instr_17 h hq hk
  | 18, _ => exact instr_18 h hq hk
  | 19, _ => exact instr_19 h hq hk
  | 20, _ => exact instr_20 h hq hk
  | 21, _ => exact instr_21 h hq hk
  | 22, _ => exact instr_22 h hq hk
  | 23, _ => exact instr_23 h hq hk
  | 24, _ => exact instr_24 h hq hk
  | 25, _ => exact instr_25 h hq hk
  | 26, _ => exact instr_26 h hq hk
  | 27, _ => exact instr_27 h hq hk
  | 28, _ => exact instr_28 h hq hk
  | 29, _ => exact instr_29 h hq hk
  | 30, _ => exact instr_30 h hq hk
  | 31, _ => exact instr_31 h hq hk
  | 32, _ => exact instr_32 h hq hk
  | 33, _ => exact instr_33 h hq hk
  | 34, _ => exact instr_34 h hq hk
  | 35, _ => exact instr_35 h hq hk
  | 36, _ => exact instr_36 h hq hk
  | 37, _ => exact instr_37 h hq hk
  | 38, _ => exact instr_38 h hq hk
  | 39, _ => exact instr_39 h hq hk
  | 40, _ => exact instr_40 h hq hk
  | 41, _ => exact instr_41 h hq hk
  | 42, _ => exact instr_42 h hq hk
  | 43, _ => exact instr_43 h hq hk
  | k + 44, hlt => omega
end Go.Proofs.YtdgfidaopkcjoaaGreatDoor

/- A byte that begins no word, behind words: where it is told. No program is named here. -/
import Derived.Test.YtiglcjcellhggaaDoorPlain8
namespace Go.Proofs.YtiglcjcellhggaaDoor
namespace Lx
set_option linter.unusedVariables false
set_option linter.unusedSimpArgs false

def badI (c : Int) : Bool := !inwI c && !sgnI c && !blkI c && !decide (c = 45)
theorem scanL_bad (ts : List ATok) (b : List UInt8) (u : UInt8) (r : List UInt8) (h : joinL ts = some b) (hu : badI (u.toNat : Int) = true) (hn : (b ++ (32 :: u :: r)).length ≤ 6000) : scanL (b ++ (32 :: u :: r)) = ([], b.length + 1, 3) := by
  simp only [badI, Bool.and_eq_true, Bool.not_eq_true', decide_eq_false_iff_not] at hu
  obtain ⟨⟨⟨h1, h2⟩, h3⟩, h4⟩ := hu
  have g1 : inw u = false := h1
  have g2 : sgn u = false := h2
  have g3 : blk u = false := h3
  have g4 : ¬ u.toNat = 45 := by omega
  rw [scanL, if_neg (by omega)]
  obtain ⟨l, f', e, hf', hm⟩ := scan_text ts b (32 :: u :: r) _ 0 [] (textOf_joinL ts b h) (.inr ⟨32, u :: r, rfl, by decide⟩) (Nat.le_refl _)
  rw [e]
  simp only [List.length_cons] at hf'
  obtain ⟨f, rfl⟩ : ∃ f, f' = f + 2 := ⟨f' - 2, by omega⟩
  rw [scanGo, if_pos (by decide), scanGo, if_neg (by rw [g3]; exact Bool.false_ne_true)]
  have hw : wordLen (u :: r) = 0 := by
    rw [wordLen, if_neg (by rw [g2]; exact Bool.false_ne_true), if_neg g4, runLen, List.takeWhile_cons, if_neg (by rw [g1]; exact Bool.false_ne_true)]; rfl
  rw [wordOf, hw, List.take_zero, tokOf_nil]
  simp
theorem bad_35 : badI 35 = true := by decide

end Lx
end Go.Proofs.YtiglcjcellhggaaDoor

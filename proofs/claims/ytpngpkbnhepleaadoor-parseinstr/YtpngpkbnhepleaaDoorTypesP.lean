/- Texts whose words are a program's; the text of a class with one type at every place. No program is named here. -/
import Derived.Test.YtpngpkbnhepleaaDoorPureP
import Derived.Test.YtpngpkbnhepleaaDoorPureJ
namespace Go.Proofs.YtpngpkbnhepleaaDoor
namespace Pp
set_option linter.unusedVariables false
set_option linter.unusedSimpArgs false

def wdA (w : Wd) : Lx.ATok := ⟨w.kind, w.text, w.num, 0⟩
theorem wd_of_bare {l : List Lx.Tok} {ws : List Wd} (h : l.map Lx.bare = (ws.map wdA).map Lx.bareA) : l.map wd = ws := by
  have h2 := congrArg (List.map fun (x : Int × List UInt8 × Int) => (⟨x.1, x.2.1, x.2.2⟩ : Wd)) h
  rw [List.map_map, List.map_map, List.map_map] at h2
  refine Eq.trans h2 ?_
  conv => rhs; rw [← List.map_id ws]
  apply List.map_congr_left
  intro w _
  rfl
/-- A text that joins a program's words is read as that program. -/
theorem program_join {cs : List Cls} {bs : List UInt8} (h : okProg cs) (hj : Lx.joinL ((manyW clsW cs).map wdA) = some bs) (hn : bs.length ≤ 6000) : program bs = (cs, 0, 0) := by
  obtain ⟨l, hl, hm⟩ := Lx.scanL_joined _ bs hj hn
  have hw := wd_of_bare hm
  have hr : progP.run (l.map wd) ⟨0, ((0 : Nat) : Int)⟩ = (cs, ⟨(manyW clsW cs).length, 0⟩) := by rw [hw]; exact reads_prog h
  simp only [program, hl, hr]
  rfl
theorem join_app {a b : List Lx.ATok} {x y : List UInt8} (ha : Lx.joinL a = some x) (hb : Lx.joinL b = some y) (h1 : a ≠ []) (h2 : b ≠ []) : Lx.joinL (a ++ b) = some (x ++ [32] ++ y) := by
  rw [Lx.joinL_two a b h1 h2, ha, hb]; rfl
theorem join_one {t : Lx.ATok} {l : List UInt8} (h : Lx.wordA t = some l) : Lx.joinL [t] = some l := by
  rw [Lx.joinL, Lx.joinGo, h]; rfl
theorem wordA_nm {s : Bs} (h : Lx.nameL s = true) : Lx.wordA (wdA (nm s)) = some s := by simp [wdA, nm, Lx.wordA, h]
def tyT (t : Ty) : List UInt8 := if t.kind = 1 then wVoid else if t.kind = 2 then wInt else if t.kind = 4 then wInt ++ [32, 91, 32, 93] else if t.kind = 3 then t.name else t.name ++ [32, 91, 32, 93]
theorem ty_join {t : Ty} (h : okTy t) : Lx.joinL ((tyW t).map wdA) = some (tyT t) ∧ (tyW t).map wdA ≠ [] ∧ (tyT t).length ≤ 24 := by
  obtain ⟨k, n⟩ := t
  rcases h with ⟨hk, hn⟩ | ⟨hk, hn⟩
  · simp only at hk hn
    subst hn
    rcases hk with rfl | rfl | rfl
    · exact ⟨by decide, by decide, by decide⟩
    · exact ⟨by decide, by decide, by decide⟩
    · exact ⟨by decide, by decide, by decide⟩
  · simp only at hk hn
    have hl := Lx.nameL_len n hn.1
    rcases hk with rfl | rfl
    · exact ⟨join_one (wordA_nm hn.1), by simp [tyW], by show n.length ≤ 24; omega⟩
    · refine ⟨?_, by simp [tyW], by show (n ++ [32, 91, 32, 93]).length ≤ 24; simp; omega⟩
      have h2 := join_app (a := [wdA (nm n)]) (b := [wdA (sg wLK), wdA (sg wRK)]) (join_one (wordA_nm hn.1)) (show _ = some [91, 32, 93] by decide) (by simp) (by simp)
      show Lx.joinL ([wdA (nm n)] ++ [wdA (sg wLK), wdA (sg wRK)]) = some (n ++ [32, 91, 32, 93])
      rw [h2]
      simp
def tyProg (t : Ty) : List Cls := [⟨[65], true, [], [], [⟨[102], t, true⟩], [⟨[109], false, true, [t, t], t, 0, [], []⟩]⟩]
def l1 : List UInt8 := [105, 110, 116, 101, 114, 102, 97, 99, 101, 32, 65, 32, 123, 32, 115, 116, 97, 116, 105, 99, 32, 102, 32, 58, 32]
def l2 : List UInt8 := [32, 59, 32, 109, 101, 116, 104, 111, 100, 32, 109, 32, 40, 32]
def l3 : List UInt8 := [32, 44, 32]
def l4 : List UInt8 := [32, 41, 32]
def l5 : List UInt8 := [32, 59, 32, 125]
def tyText (s : List UInt8) : List UInt8 := l1 ++ s ++ l2 ++ s ++ l3 ++ s ++ l4 ++ s ++ l5
theorem okN_A : okN [65] := ⟨by decide, by decide⟩
theorem okN_f : okN [102] := ⟨by decide, by decide⟩
theorem okN_m : okN [109] := ⟨by decide, by decide⟩
theorem okProg_ty {t : Ty} (h : okTy t) : okProg (tyProg t) := by
  refine ⟨by simp [tyProg], fun c hc => ?_⟩
  simp only [tyProg, List.mem_singleton] at hc
  subst hc
  refine ⟨okN_A, .inl rfl, ⟨by simp, by simp⟩, ⟨by simp, fun f hf => ?_⟩, by simp, fun m hm => ?_⟩
  · simp only [List.mem_singleton] at hf
    subst hf
    exact ⟨okN_f, h⟩
  · simp only [List.mem_singleton] at hm
    subst hm
    refine ⟨okN_m, ⟨by simp, fun x hx => ?_⟩, h, .inl ⟨rfl, rfl, rfl, rfl⟩⟩
    simp at hx
    subst hx
    exact h
theorem ty_words (t : Ty) : (manyW clsW (tyProg t)).map wdA = ([nm wInterface, nm [65], sg wLB, nm wStatic, nm [102], sg wColon].map wdA) ++ ((tyW t).map wdA ++ (([sg wSemi, nm wMethod, nm [109], sg wLP].map wdA) ++ ((tyW t).map wdA ++ (([sg wComma].map wdA) ++ ((tyW t).map wdA ++ (([sg wRP].map wdA) ++ ((tyW t).map wdA ++ ([sg wSemi, sg wRB].map wdA)))))))) := by
  simp [tyProg, manyW, clsW, fldW, mthW, supW, ifsW, commaW, moreW]
theorem program_ty {t : Ty} (h : okTy t) : program (tyText (tyT t)) = (tyProg t, 0, 0) := by
  obtain ⟨h1, h2, h3⟩ := ty_join h
  refine program_join (okProg_ty h) ?_ ?_
  · rw [ty_words]
    have g1 := join_app h1 (show Lx.joinL ([sg wSemi, sg wRB].map wdA) = some [59, 32, 125] by decide) h2 (by simp)
    have g2 := join_app (show Lx.joinL ([sg wRP].map wdA) = some [41] by decide) g1 (by simp) (by simp)
    have g3 := join_app h1 g2 h2 (by simp)
    have g4 := join_app (show Lx.joinL ([sg wComma].map wdA) = some [44] by decide) g3 (by simp) (by simp)
    have g5 := join_app h1 g4 h2 (by simp)
    have g6 := join_app (show Lx.joinL ([sg wSemi, nm wMethod, nm [109], sg wLP].map wdA) = some [59, 32, 109, 101, 116, 104, 111, 100, 32, 109, 32, 40] by decide) g5 (by simp) (by simp)
    have g7 := join_app h1 g6 h2 (by simp)
    have g8 := join_app (show Lx.joinL ([nm wInterface, nm [65], sg wLB, nm wStatic, nm [102], sg wColon].map wdA) = some [105, 110, 116, 101, 114, 102, 97, 99, 101, 32, 65, 32, 123, 32, 115, 116, 97, 116, 105, 99, 32, 102, 32, 58] by decide) g7 (by simp) (by simp)
    rw [g8]
    simp [tyText, l1, l2, l3, l4, l5]
  · simp [tyText, l1, l2, l3, l4, l5]; omega
end Pp
end Go.Proofs.YtpngpkbnhepleaaDoor

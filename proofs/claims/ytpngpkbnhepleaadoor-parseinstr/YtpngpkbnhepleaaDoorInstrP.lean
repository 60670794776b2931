/- Texts with one instruction: read, or refused where a sign is missing or a word is left over. No program is named here. -/
import Derived.Test.YtpngpkbnhepleaaDoorPureP
import Derived.Test.YtpngpkbnhepleaaDoorTypesP
namespace Go.Proofs.YtpngpkbnhepleaaDoor
namespace Pp
set_option linter.unusedVariables false
set_option linter.unusedSimpArgs false

/-- The tree comes to fault 4 over these words. -/
def Fails {α : Type} (p : Pr α) (ws : List Wd) : Prop := ∀ A : List Wd, (p.run (A ++ ws) ⟨A.length, 0⟩).2.e = 4
section
variable {α β : Type}
theorem Fails.bind1 {p : Pr α} {f : α → Pr β} {ws : List Wd} (hp : Fails p ws) (hf : ∀ a, Law (f a)) : Fails (p.bind f) ws := fun A => by
  rw [run_bind, (hf _).stuck _ _ (by rw [hp A]; decide)]
  exact hp A
theorem Fails.bind2 {p : Pr α} {f : α → Pr β} {u v : List Wd} {a : α} (hp : Reads p u v a) (hf : Fails (f a) v) : Fails (p.bind f) (u ++ v) := fun A => by
  rw [run_bind, hp A]
  have h := hf (A ++ u)
  rw [List.append_assoc, List.length_append] at h
  exact h
theorem Fails.peek {q : Wd → Bool} {y n : Pr α} {ws : List Wd} (hq : hd ws q = true) (hy : Fails y ws) : Fails (Pr.peek q y n) ws := fun A => by
  rw [peek_run, if_pos (by rw [has_at, hq])]; exact hy A
theorem Fails.peekNo {q : Wd → Bool} {y n : Pr α} {ws : List Wd} (hq : hd ws q = false) (hn : Fails n ws) : Fails (Pr.peek q y n) ws := fun A => by
  rw [peek_run, if_neg (by rw [has_at, hq]; exact Bool.false_ne_true)]; exact hn A
theorem Fails.test {q : Wd → Bool} {y : Wd → Pr α} {n : Pr α} {w : Wd} {ws : List Wd} (hq : q w = true) (hy : Fails (y w) ws) : Fails (Pr.test q y n) (w :: ws) := fun A => by
  rw [test_run, if_pos (by rw [has_at]; exact hq)]
  have hc : cur (A ++ (w :: ws)) ⟨A.length, 0⟩ = some w := by
    unfold cur
    simp only [if_true]
    rw [List.getElem?_append_right (Nat.le_refl _), Nat.sub_self]; rfl
  rw [hc]
  have h := hy (A ++ [w])
  rw [List.append_assoc, List.length_append] at h
  exact h
end
theorem fails_want {t : Bs} {ws : List Wd} (h : hd ws (isW t) = false) : Fails (want t) ws := fun A => by
  unfold want
  rw [test_run, if_neg (by rw [has_at, h]; exact Bool.false_ne_true)]
  rfl
/-- An instruction behind which no ";" stands. -/
theorem fails_instr {i : Ins} (h : okIns i) {rest : List Wd} (hr : hd rest (isW wSemi) = false) : Fails instr (nm (opWords.getD i.op []) :: (argW i ++ rest)) := by
  have e2 : opL (nm (opWords.getD i.op [])).text = some i.op := op_word i.op h.1
  refine Fails.test (by simp only [isInstr, e2]; rfl) ?_
  simp only [e2, Option.getD_some]
  exact Fails.bind2 (reads_args h.2 _) (Fails.bind1 (fails_want hr) fun _ => Law.ret _)
def insProg (i : Ins) : List Cls := [⟨[65], false, [], [], [], [⟨[109], false, false, [], ⟨1, []⟩, 1, [i], []⟩]⟩]
def preW : List Wd := [nm wClass, nm [65], sg wLB, nm wMethod, nm [109], sg wLP, sg wRP, nm wVoid, nm wLocals, nu 1, sg wLB]
theorem okProg_ins {i : Ins} (h : okIns i) : okProg (insProg i) := by
  refine ⟨by simp [insProg], fun c hc => ?_⟩
  simp only [insProg, List.mem_singleton] at hc
  subst hc
  refine ⟨okN_A, .inl rfl, ⟨by simp, by simp⟩, ⟨by simp, by simp⟩, by simp, fun m hm => ?_⟩
  simp only [List.mem_singleton] at hm
  subst hm
  refine ⟨okN_m, ⟨by simp, by simp⟩, .inl ⟨.inl rfl, rfl⟩, .inr ⟨rfl, ⟨show (0 : Int) ≤ 1 by decide, show (1 : Int) ≤ 8 by decide⟩, ⟨by simp, fun x hx => ?_⟩, by simp, by simp⟩⟩
  simp only [List.mem_singleton] at hx
  subst hx
  exact h
theorem ins_words (i : Ins) : manyW clsW (insProg i) = preW ++ ((nm (opWords.getD i.op []) :: argW i) ++ [sg wSemi, sg wRB, sg wRB]) := by
  simp [insProg, manyW, clsW, fldW, mthW, supW, ifsW, commaW, bodyW, insW, tyW, preW]
def mthPre (r : List Wd) : List Wd := [nm (if false = true then wFunction else wMethod)] ++ ([nm [109]] ++ ([sg wLP] ++ ([] ++ ([sg wRP] ++ (tyW ⟨1, []⟩ ++ ([] ++ ([nm wLocals] ++ ([nu 1] ++ ([sg wLB] ++ r)))))))))
def clsPre (r : List Wd) : List Wd := [nm (if false = true then wInterface else wClass)] ++ ([nm [65]] ++ ([] ++ ([] ++ ([sg wLB] ++ mthPre r))))
/-- Where what stands behind the instruction's words is no ";", the program is refused. -/
theorem fails_prog {i : Ins} (h : okIns i) {rest : List Wd} (hr : hd rest (isW wSemi) = false) : Fails progP (preW ++ ((nm (opWords.getD i.op []) :: argW i) ++ rest)) := by
  have e2 : opL (nm (opWords.getD i.op [])).text = some i.op := op_word i.op h.1
  have hin : ∀ l, hd ((nm (opWords.getD i.op []) :: argW i) ++ l) isInstr = true := fun l => by
    show (opL (nm (opWords.getD i.op [])).text).isSome = true
    rw [e2]; rfl
  have f1 : Fails (many isInstr instr 48 []) ((nm (opWords.getD i.op []) :: argW i) ++ rest) := Fails.peek (hin rest) (Fails.bind1 (fails_instr h hr) fun _ => law_many law_instr _ _)
  have f2 : Fails body ([nm wLocals] ++ ([nu 1] ++ ([sg wLB] ++ ((nm (opWords.getD i.op []) :: argW i) ++ rest)))) :=
    Fails.bind2 (reads_want (by decide) _) (Fails.bind2 (reads_number (by decide) (by decide) _) (Fails.bind2 (reads_want (by decide) _) (Fails.bind1 f1 fun _ => Law.bind (law_many law_catch _ _) fun _ => Law.bind (law_want _) fun _ => Law.ret _)))
  have f3 : Fails method (mthPre ((nm (opWords.getD i.op []) :: argW i) ++ rest)) :=
    Fails.bind2 (reads_first (by decide) false _) (Fails.bind2 (reads_fresh okN_m _) (Fails.bind2 (reads_want (by decide) _) (Fails.bind2 (a := []) (Reads.peek (show isW wRP (sg wRP) = true by decide) (Reads.ret _ _)) (Fails.bind2 (reads_want (by decide) _) (Fails.bind2 (reads_typed (t := ⟨1, []⟩) (.inl ⟨.inl rfl, rfl⟩) (show isW wLK (nm wLocals) = false by decide)) (Fails.bind2 (a := false) (Reads.testNo (show isW wSemi (nm wLocals) = false by decide) (Reads.ret _ _)) (Fails.bind1 f2 fun _ => Law.ret _)))))))
  have f4 : Fails (members 12 [] []) (mthPre ((nm (opWords.getD i.op []) :: argW i) ++ rest)) := by
    rw [members]
    refine Fails.peekNo (show isW2 wField wStatic (nm wMethod) = false by decide) (Fails.peek (show isW2 wMethod wFunction (nm wMethod) = true by decide) ?_)
    rw [if_neg (by simp)]
    exact Fails.bind1 f3 fun _ => law_members _ _ _
  have f5 : Fails cls (clsPre ((nm (opWords.getD i.op []) :: argW i) ++ rest)) :=
    Fails.bind2 (reads_first (by decide) false _) (Fails.bind2 (reads_fresh okN_A _) (Fails.bind2 (a := []) (Reads.testNo (show isW wExtends (sg wLB) = false by decide) (Reads.ret _ _)) (Fails.bind2 (a := []) (Reads.testNo (show isW wImplements (sg wLB) = false by decide) (Reads.ret _ _)) (Fails.bind2 (reads_want (by decide) _) (Fails.bind1 f4 fun _ => Law.bind (law_want _) fun _ => Law.ret _)))))
  have f6 : Fails classes (clsPre ((nm (opWords.getD i.op []) :: argW i) ++ rest)) :=
    Fails.peek (show isW2 wClass wInterface (nm wClass) = true by decide) (Fails.bind1 f5 fun _ => law_many law_cls _ _)
  exact Fails.bind1 f6 fun _ => Law.peek (Law.fail (Law.ret _) _) (Law.ret _) _
def argT (i : Ins) : List UInt8 := if shape i.op = 1 ∨ shape i.op = 2 ∨ shape i.op = 3 then 32 :: Lx.intL i.n else if shape i.op = 4 then 32 :: i.a else if shape i.op = 5 then 32 :: (i.a ++ (32 :: i.b)) else []
theorem op_names : ∀ k, k < 44 → Lx.nameL (opWords.getD k []) = true ∧ (opWords.getD k []).length ≤ 10 := by decide +kernel
theorem wordA_nu {n : Int} (h0 : -2147483648 ≤ n) (h1 : n ≤ 2147483647) : Lx.wordA (wdA (nu n)) = some (Lx.intL n) := by simp [wdA, nu, Lx.wordA, h0, h1]
/-- The text of an instruction's words. -/
theorem ins_join {i : Ins} (h : okIns i) : Lx.joinL ((nm (opWords.getD i.op []) :: argW i).map wdA) = some (opWords.getD i.op [] ++ argT i) ∧ (argT i).length ≤ 50 := by
  obtain ⟨op, n, a, b⟩ := i
  obtain ⟨ho, ha⟩ := h
  simp only at ho ha
  have hw := join_one (wordA_nm (op_names op ho).1)
  simp only [argW, argT]
  rcases ha with ⟨hs, h1, h2, e1, e2⟩ | ⟨hs, h1, h2, e1, e2⟩ | ⟨hs, h1, h2, e1, e2⟩ | ⟨hs, e1, h1, e2⟩ | ⟨hs, e1, h1, h2⟩ | ⟨hs, e1, e2, e3⟩
  · simp only at hs h1 h2
    have hl := (Lx.intL_len n).2
    rw [hs]
    refine ⟨?_, by simp; omega⟩
    have := join_app hw (join_one (wordA_nu h1 h2)) (by simp) (by simp)
    simpa using this
  · simp only at hs h1 h2
    have hl := (Lx.intL_len n).2
    rw [hs]
    refine ⟨?_, by simp; omega⟩
    have := join_app hw (join_one (wordA_nu (n := n) (by omega) (by omega))) (by simp) (by simp)
    simpa using this
  · simp only at hs h1 h2
    have hl := (Lx.intL_len n).2
    rw [hs]
    refine ⟨?_, by simp; omega⟩
    have := join_app hw (join_one (wordA_nu (n := n) (by omega) (by omega))) (by simp) (by simp)
    simpa using this
  · simp only at hs h1
    have hl := Lx.nameL_len a h1.1
    rw [hs]
    refine ⟨?_, by simp; omega⟩
    have := join_app hw (join_one (wordA_nm h1.1)) (by simp) (by simp)
    simpa using this
  · simp only at hs h1 h2
    have hl := Lx.nameL_len a h1.1
    have hl2 := Lx.nameL_len b h2.1
    rw [hs]
    refine ⟨?_, by simp; omega⟩
    have := join_app hw (join_app (join_one (wordA_nm h1.1)) (join_one (wordA_nm h2.1)) (by simp) (by simp)) (by simp) (by simp)
    simpa using this
  · simp only at hs
    rw [hs]
    exact ⟨by simpa using hw, by simp⟩
theorem program_fails {ws : List Wd} {bs : List UInt8} (hf : Fails progP ws) (hj : Lx.joinL (ws.map wdA) = some bs) (hn : bs.length ≤ 6000) : (program bs).2.2 = 4 := by
  obtain ⟨l, hl, hm⟩ := Lx.scanL_joined _ bs hj hn
  have hw := wd_of_bare hm
  have hr : (progP.run (l.map wd) ⟨0, ((0 : Nat) : Int)⟩).2.e = 4 := by rw [hw]; exact hf []
  simp only [program, hl]
  rw [if_neg (by rw [hr]; decide)]
  exact hr
def i1 : List UInt8 := [99, 108, 97, 115, 115, 32, 65, 32, 123, 32, 109, 101, 116, 104, 111, 100, 32, 109, 32, 40, 32, 41, 32, 118, 111, 105, 100, 32, 108, 111, 99, 97, 108, 115, 32, 49, 32, 123, 32]
def insT (i : Ins) : List UInt8 := opWords.getD i.op [] ++ argT i
theorem pre_join : Lx.joinL (preW.map wdA) = some [99, 108, 97, 115, 115, 32, 65, 32, 123, 32, 109, 101, 116, 104, 111, 100, 32, 109, 32, 40, 32, 41, 32, 118, 111, 105, 100, 32, 108, 111, 99, 97, 108, 115, 32, 49, 32, 123] := by decide
theorem insT_len {i : Ins} (h : okIns i) : (insT i).length ≤ 60 := by
  have h1 := (op_names i.op h.1).2
  have h2 := (ins_join h).2
  rw [insT, List.length_append]; omega
theorem text_join {i : Ins} (h : okIns i) {rest : List Wd} {r : List UInt8} (hr : Lx.joinL (rest.map wdA) = some r) (hne : rest ≠ []) : Lx.joinL ((preW ++ ((nm (opWords.getD i.op []) :: argW i) ++ rest)).map wdA) = some (i1 ++ insT i ++ (32 :: r)) := by
  have g1 := join_app (ins_join h).1 hr (by simp) (by simpa using hne)
  have g2 := join_app pre_join g1 (by simp [preW]) (by simp)
  rw [List.map_append, List.map_append, g2]
  simp [i1, insT]
theorem program_ins {i : Ins} (h : okIns i) : program (i1 ++ insT i ++ [32, 59, 32, 125, 32, 125]) = (insProg i, 0, 0) := by
  have hl := insT_len h
  refine program_join (okProg_ins h) ?_ (by simp [i1]; omega)
  rw [ins_words]
  exact text_join h (show _ = some [59, 32, 125, 32, 125] by decide) (by simp)
theorem program_insF {i : Ins} (h : okIns i) : (program (i1 ++ insT i ++ [32, 125, 32, 125])).2.2 = 4 := by
  have hl := insT_len h
  exact program_fails (fails_prog h (rest := [sg wRB, sg wRB]) (show isW wSemi (sg wRB) = false by decide)) (text_join h (show _ = some [125, 32, 125] by decide) (by simp)) (by simp [i1]; omega)
theorem program_insG {i : Ins} (h : okIns i) : (program (i1 ++ insT i ++ [32, 55, 32, 120, 32, 59, 32, 125, 32, 125])).2.2 = 4 := by
  have hl := insT_len h
  exact program_fails (fails_prog h (rest := [nu 7, nm [120], sg wSemi, sg wRB, sg wRB]) (show isW wSemi (nu 7) = false by decide)) (text_join h (show _ = some [55, 32, 120, 32, 59, 32, 125, 32, 125] by decide) (by simp)) (by simp [i1]; omega)
end Pp
end Go.Proofs.YtpngpkbnhepleaaDoor

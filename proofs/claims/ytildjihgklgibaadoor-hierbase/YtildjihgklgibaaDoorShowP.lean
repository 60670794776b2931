/- Programs of any numbers: whether they can be shown, and their text. No program is named here. -/
import Derived.Test.YtildjihgklgibaaDoorPureP
import Derived.Test.YtildjihgklgibaaDoorPureJ
namespace Go.Proofs.YtildjihgklgibaaDoor
namespace Pp
set_option linter.unusedVariables false
set_option linter.unusedSimpArgs false

structure XIns where
  op : Int
  n : Int
  a : Bs
  b : Bs
structure XMth where
  name : Bs
  stat : Bool
  abst : Bool
  params : List Ty
  ret : Ty
  locals : Int
  code : List XIns
  catches : List Ctc
structure XCls where
  name : Bs
  iface : Bool
  super : Bs
  ifaces : List Bs
  fields : List Fld
  methods : List XMth
def XIns.toP (i : XIns) : Ins := ⟨i.op.toNat, i.n, i.a, i.b⟩
def XMth.toP (m : XMth) : Mth := ⟨m.name, m.stat, m.abst, m.params, m.ret, m.locals, m.code.map XIns.toP, m.catches⟩
def XCls.toP (c : XCls) : Cls := ⟨c.name, c.iface, c.super, c.ifaces, c.fields, c.methods.map XMth.toP⟩
def insX (i : Ins) : XIns := ⟨(i.op : Int), i.n, i.a, i.b⟩
def mthX (m : Mth) : XMth := ⟨m.name, m.stat, m.abst, m.params, m.ret, m.locals, m.code.map insX, m.catches⟩
def clsX (c : Cls) : XCls := ⟨c.name, c.iface, c.super, c.ifaces, c.fields, c.methods.map mthX⟩
theorem toP_ins (i : Ins) : (insX i).toP = i := by cases i; simp [insX, XIns.toP]
theorem toP_mth (m : Mth) : (mthX m).toP = m := by
  obtain ⟨n, st, ab, ps, rt, lo, co, ca⟩ := m
  simp only [mthX, XMth.toP, List.map_map, Mth.mk.injEq, true_and, and_true]
  exact (List.map_congr_left (fun i _ => toP_ins i)).trans (List.map_id _)
theorem toP_cls (c : Cls) : (clsX c).toP = c := by
  obtain ⟨n, ic, su, ifs, fs, ms⟩ := c
  simp only [clsX, XCls.toP, List.map_map, Cls.mk.injEq, true_and, and_true]
  exact (List.map_congr_left (fun i _ => toP_mth i)).trans (List.map_id _)

def freshB (s : Bs) : Bool := Lx.nameL s && !keptL s
theorem freshB_iff (s : Bs) : freshB s = true ↔ okN s := by simp [freshB, okN]
def typeB (t : Ty) : Bool := if t.kind = 1 ∨ t.kind = 2 ∨ t.kind = 4 then t.name == [] else if t.kind = 3 ∨ t.kind = 5 then freshB t.name else false
theorem typeB_iff (t : Ty) : typeB t = true ↔ okTy t := by
  unfold typeB okTy
  by_cases h1 : t.kind = 1 ∨ t.kind = 2 ∨ t.kind = 4
  · rw [if_pos h1]
    constructor
    · intro h; exact .inl ⟨h1, by simpa using h⟩
    · rintro (⟨_, h⟩ | ⟨h, _⟩)
      · simp [h]
      · omega
  · rw [if_neg h1]
    by_cases h2 : t.kind = 3 ∨ t.kind = 5
    · rw [if_pos h2, freshB_iff]
      constructor
      · intro h; exact .inr ⟨h2, h⟩
      · rintro (⟨h, _⟩ | ⟨_, h⟩)
        · exact absurd h h1
        · exact h
    · rw [if_neg h2]
      constructor
      · intro h; cases h
      · rintro (⟨h, _⟩ | ⟨h, _⟩)
        · exact absurd h h1
        · exact absurd h h2
def withinB (n lo hi : Int) : Bool := decide (lo ≤ n) && decide (n ≤ hi)
def eachB {α : Type} (l : List α) (most : Nat) (f : α → Bool) : Bool := decide (l.length ≤ most) && l.all f
def fldB (f : Fld) : Bool := freshB f.name && typeB f.ty
/-- What stands behind an instruction's word: whether a number, from where, up to where, how many names. -/
def argsX (op : Int) : Bool × Int × Int × Int :=
  if op = 1 then (true, -2147483648, 2147483647, 0) else if op = 3 ∨ op = 4 then (true, 0, 7, 0) else if 14 ≤ op ∧ op ≤ 26 then (true, 0, 47, 0)
  else if op = 27 ∨ op = 33 ∨ op = 37 ∨ op = 38 then (false, 0, 0, 1) else if (28 ≤ op ∧ op ≤ 31) ∨ op = 39 ∨ op = 40 then (false, 0, 0, 2) else (false, 0, 0, 0)
def argB (s : Bs) (has : Bool) : Bool := if has = true then freshB s else s == []
def insB (i : XIns) : Bool := (decide (0 ≤ i.op) && decide (i.op < 44)) && (withinB i.n (argsX i.op).2.1 (argsX i.op).2.2.1 && (argB i.a (decide (1 ≤ (argsX i.op).2.2.2)) && argB i.b (decide (2 ≤ (argsX i.op).2.2.2))))
def ctcB (c : Ctc) : Bool := freshB c.name && (withinB c.lo 0 48 && (withinB c.hi 0 48 && withinB c.pc 0 48))
def bodyB (m : XMth) : Bool := if m.abst = true then m.locals == 0 && (m.code.isEmpty && m.catches.isEmpty) else withinB m.locals 0 8 && (eachB m.code 48 insB && eachB m.catches 4 ctcB)
def mthB (m : XMth) : Bool := freshB m.name && (eachB m.params 4 typeB && (typeB m.ret && bodyB m))
def supB (c : XCls) : Bool := c.super == [] || (!c.iface && freshB c.super)
def clsB (c : XCls) : Bool := freshB c.name && (supB c && (eachB c.ifaces 4 freshB && (eachB c.fields 6 fldB && eachB c.methods 6 mthB)))
def progB (cs : List XCls) : Bool := eachB cs 10 clsB

theorem withinB_iff (n lo hi : Int) : withinB n lo hi = true ↔ lo ≤ n ∧ n ≤ hi := by simp [withinB]
theorem eachB_iff {α : Type} (l : List α) (most : Nat) (f : α → Bool) : eachB l most f = true ↔ l.length ≤ most ∧ ∀ x ∈ l, f x = true := by simp [eachB]
theorem fldB_iff (f : Fld) : fldB f = true ↔ okFld f := by simp [fldB, okFld, freshB_iff, typeB_iff]
theorem ctcB_iff (c : Ctc) : ctcB c = true ↔ okCtc c := by simp [ctcB, okCtc, freshB_iff, withinB_iff]
theorem argB_yes (s : Bs) : argB s true = true ↔ okN s := by simp [argB, freshB_iff]
theorem argB_no (s : Bs) : argB s false = true ↔ s = [] := by simp [argB]
/-- An instruction's arguments by its shape. -/
theorem argsX_shape (k : Nat) (hk : k < 44) : argsX (k : Int) = if shape k = 1 then (true, -2147483648, 2147483647, 0) else if shape k = 2 then (true, 0, 7, 0) else if shape k = 3 then (true, 0, 47, 0) else if shape k = 4 then (false, 0, 0, 1) else if shape k = 5 then (false, 0, 0, 2) else (false, 0, 0, 0) := by
  revert k; decide +kernel
theorem shape_le (k : Nat) : shape k ≤ 5 := by unfold shape; repeat (first | split | omega)
theorem insB_iff (i : XIns) : insB i = true ↔ 0 ≤ i.op ∧ okIns i.toP := by
  obtain ⟨op, n, a, b⟩ := i
  unfold insB okIns XIns.toP
  simp only [Bool.and_eq_true, decide_eq_true_eq]
  by_cases h0 : 0 ≤ op
  · obtain ⟨k, rfl⟩ := Int.eq_ofNat_of_zero_le h0
    simp only [Int.toNat_natCast]
    by_cases hk : k < 44
    · rw [argsX_shape k hk]
      have hl := shape_le k
      unfold okArg
      simp only
      generalize shape k = sh at *
      rcases (show sh = 0 ∨ sh = 1 ∨ sh = 2 ∨ sh = 3 ∨ sh = 4 ∨ sh = 5 by omega) with rfl | rfl | rfl | rfl | rfl | rfl
      all_goals simp only [if_true, if_false, Nat.reduceEqDiff, reduceCtorEq, withinB_iff, false_and, true_and, or_false, false_or, Int.reduceLE, decide_true, decide_false, argB_yes, argB_no]
      all_goals (constructor <;> intro h)
      all_goals (first | (obtain ⟨⟨x1, x2⟩, ⟨x3, x4⟩, x5, x6⟩ := h; refine ⟨h0, hk, ?_⟩; first | exact ⟨by omega, x5, x6⟩ | exact ⟨x3, x4, x5, x6⟩) | skip)
      all_goals (obtain ⟨x1, x2, x3⟩ := h; refine ⟨⟨h0, by omega⟩, ?_⟩; first | exact ⟨⟨x3.1, x3.2.1⟩, x3.2.2⟩ | exact ⟨by omega, x3.2⟩)
    · constructor
      · rintro ⟨⟨_, h⟩, _⟩; omega
      · rintro ⟨_, h, _⟩; exact absurd h hk
  · constructor
    · rintro ⟨⟨h, _⟩, _⟩; exact absurd h h0
    · rintro ⟨h, _⟩; exact absurd h h0
theorem bodyB_iff (m : XMth) : bodyB m = true ↔ (∀ i ∈ m.code, 0 ≤ i.op) ∧ okBody m.toP := by
  obtain ⟨n, st, ab, ps, rt, lo, co, ca⟩ := m
  unfold bodyB okBody XMth.toP
  cases ab with
  | true =>
    simp only [if_true, Bool.and_eq_true, beq_iff_eq, List.isEmpty_iff, List.map_eq_nil_iff, true_and]
    constructor
    · rintro ⟨h1, rfl, h3⟩; exact ⟨by simp, .inl ⟨h1, rfl, h3⟩⟩
    · rintro ⟨_, ⟨h1, h2, h3⟩ | ⟨h, _⟩⟩
      · exact ⟨h1, h2, h3⟩
      · cases h
  | false =>
    simp only [Bool.false_eq_true, if_false, Bool.and_eq_true, withinB_iff, eachB_iff, false_and, false_or, true_and, List.length_map, List.mem_map, forall_exists_index, and_imp, forall_apply_eq_imp_iff₂, insB_iff, ctcB_iff]
    constructor
    · rintro ⟨h1, ⟨h2, h3⟩, h4⟩; exact ⟨fun i hi => (h3 i hi).1, h1, ⟨h2, fun i hi => (h3 i hi).2⟩, h4⟩
    · rintro ⟨h0, h1, ⟨h2, h3⟩, h4⟩; exact ⟨h1, ⟨h2, fun i hi => ⟨h0 i hi, h3 i hi⟩⟩, h4⟩
theorem mthB_iff (m : XMth) : mthB m = true ↔ (∀ i ∈ m.code, 0 ≤ i.op) ∧ okMth m.toP := by
  unfold mthB okMth
  simp only [Bool.and_eq_true, freshB_iff, eachB_iff, typeB_iff, bodyB_iff]
  constructor
  · rintro ⟨h1, h2, h3, h4, h5⟩; exact ⟨h4, h1, h2, h3, h5⟩
  · rintro ⟨h4, h1, h2, h3, h5⟩; exact ⟨h1, h2, h3, h4, h5⟩
def posX (c : XCls) : Prop := ∀ m ∈ c.methods, ∀ i ∈ m.code, 0 ≤ i.op
theorem clsB_iff (c : XCls) : clsB c = true ↔ posX c ∧ okCls c.toP := by
  obtain ⟨n, ic, su, ifs, fs, ms⟩ := c
  unfold clsB okCls supB XCls.toP posX
  simp only [Bool.and_eq_true, Bool.or_eq_true, Bool.not_eq_true', freshB_iff, eachB_iff, fldB_iff, mthB_iff, beq_iff_eq, List.length_map, List.mem_map, forall_exists_index, and_imp, forall_apply_eq_imp_iff₂]
  constructor
  · rintro ⟨h1, h2, h3, h4, h5, h6⟩; exact ⟨fun m hm => (h6 m hm).1, h1, h2, h3, h4, h5, fun m hm => (h6 m hm).2⟩
  · rintro ⟨h0, h1, h2, h3, h4, h5, h6⟩; exact ⟨h1, h2, h3, h4, h5, fun m hm => ⟨h0 m hm, h6 m hm⟩⟩
theorem progB_iff (cs : List XCls) : progB cs = true ↔ (∀ c ∈ cs, posX c) ∧ okProg (cs.map XCls.toP) := by
  unfold progB okProg
  simp only [eachB_iff, clsB_iff, List.length_map, List.mem_map, forall_exists_index, and_imp, forall_apply_eq_imp_iff₂]
  constructor
  · rintro ⟨h1, h2⟩; exact ⟨fun c hc => (h2 c hc).1, h1, fun c hc => (h2 c hc).2⟩
  · rintro ⟨h0, h1, h2⟩; exact ⟨h1, fun c hc => ⟨h0 c hc, h2 c hc⟩⟩

/-- The byte behind a word, and what a writer says of words. -/
def behL (s : Bs) : UInt8 := if s = wLB ∨ s = wRB ∨ s = wSemi then 10 else 32
def sayL : List Bs → Bs
  | [] => []
  | s :: r => s ++ (behL s :: sayL r)
theorem sayL_app (a b : List Bs) : sayL (a ++ b) = sayL a ++ sayL b := by
  induction a with
  | nil => rfl
  | cons s r ih => simp only [List.cons_append, sayL, ih, List.append_assoc]
def wtx (w : Wd) : Bs := if w.kind = 2 then Lx.intL w.num else w.text
def wordsT (ws : List Wd) : Bs := sayL (ws.map wtx)
theorem wordsT_app (a b : List Wd) : wordsT (a ++ b) = wordsT a ++ wordsT b := by simp [wordsT, sayL_app]
def textX (cs : List XCls) : Bs := wordsT (manyW clsW (cs.map XCls.toP))

end Pp
end Go.Proofs.YtildjihgklgibaaDoor

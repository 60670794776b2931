/- Parsers of words as trees, what they come to, and the tree of a program's text. No program is named here. -/
import Derived.Test.YtildjihgklgibaaDoorPlain3
namespace Go.Proofs.YtildjihgklgibaaDoor
namespace Pp
set_option linter.unusedVariables false
set_option linter.unusedSimpArgs false

abbrev Bs := List UInt8
structure Wd where
  kind : Int
  text : Bs
  num : Int
def wd (t : Lx.Tok) : Wd := ⟨t.kind, t.text, t.num⟩
structure St where
  i : Nat
  e : Int
def cur (C : List Wd) (s : St) : Option Wd := if s.e = 0 then C[s.i]? else none
def failS (s : St) (k : Int) : St := if s.e = 0 then ⟨s.i, k⟩ else s
def St.adv (s : St) : St := ⟨s.i + 1, s.e⟩
def has (C : List Wd) (s : St) (q : Wd → Bool) : Bool := match cur C s with
  | some t => q t
  | none => false
/-- A tree of words: what it comes to over any words, from any state. -/
def Pr (α : Type) : Type := List Wd → St → α × St
def Pr.run {α : Type} (C : List Wd) (p : Pr α) (s : St) : α × St := p C s
def Pr.ret {α : Type} (a : α) : Pr α := fun _ s => (a, s)
def Pr.test {α : Type} (q : Wd → Bool) (y : Wd → Pr α) (n : Pr α) : Pr α := fun C s => if has C s q = true then (match cur C s with
  | some t => y t C s.adv
  | none => n C s) else n C s
def Pr.peek {α : Type} (q : Wd → Bool) (y n : Pr α) : Pr α := fun C s => if has C s q = true then y C s else n C s
def Pr.fail {α : Type} (k : Int) (p : Pr α) : Pr α := fun C s => p C (failS s k)
def Pr.bind {α β : Type} (p : Pr α) (f : α → Pr β) : Pr β := fun C s => f (p C s).1 C (p C s).2
theorem run_bind {α β : Type} (C : List Wd) (f : α → Pr β) (p : Pr α) (s : St) : (p.bind f).run C s = (f (p.run C s).1).run C (p.run C s).2 := rfl
theorem test_run {α : Type} (C : List Wd) (q : Wd → Bool) (y : Wd → Pr α) (n : Pr α) (s : St) : (Pr.test q y n).run C s = if has C s q = true then (match cur C s with
  | some t => (y t).run C s.adv
  | none => n.run C s) else n.run C s := rfl
theorem peek_run {α : Type} (C : List Wd) (q : Wd → Bool) (y n : Pr α) (s : St) : (Pr.peek q y n).run C s = if has C s q = true then y.run C s else n.run C s := rfl

structure Ty where
  kind : Int
  name : Bs
structure Fld where
  name : Bs
  ty : Ty
  stat : Bool
structure Ins where
  op : Nat
  n : Int
  a : Bs
  b : Bs
structure Ctc where
  name : Bs
  lo : Int
  hi : Int
  pc : Int
structure Mth where
  name : Bs
  stat : Bool
  abst : Bool
  params : List Ty
  ret : Ty
  locals : Int
  code : List Ins
  catches : List Ctc
structure Cls where
  name : Bs
  iface : Bool
  super : Bs
  ifaces : List Bs
  fields : List Fld
  methods : List Mth

def wClass : Bs := [99, 108, 97, 115, 115]
def wInterface : Bs := [105, 110, 116, 101, 114, 102, 97, 99, 101]
def wExtends : Bs := [101, 120, 116, 101, 110, 100, 115]
def wImplements : Bs := [105, 109, 112, 108, 101, 109, 101, 110, 116, 115]
def wField : Bs := [102, 105, 101, 108, 100]
def wStatic : Bs := [115, 116, 97, 116, 105, 99]
def wMethod : Bs := [109, 101, 116, 104, 111, 100]
def wFunction : Bs := [102, 117, 110, 99, 116, 105, 111, 110]
def wLocals : Bs := [108, 111, 99, 97, 108, 115]
def wCatch : Bs := [99, 97, 116, 99, 104]
def wInt : Bs := [105, 110, 116]
def wVoid : Bs := [118, 111, 105, 100]
def wLB : Bs := [123]
def wRB : Bs := [125]
def wLP : Bs := [40]
def wRP : Bs := [41]
def wColon : Bs := [58]
def wSemi : Bs := [59]
def wComma : Bs := [44]
def wLK : Bs := [91]
def wRK : Bs := [93]
def keptWords : List Bs := [wClass, wInterface, wExtends, wImplements, wField, wStatic, wMethod, wFunction, wLocals, wCatch, wInt, wVoid]
def keptL (s : Bs) : Bool := keptWords.any (· == s)
def opWords : List Bs := [[110, 111, 112], [99, 111, 110, 115, 116], [110, 117, 108, 108], [108, 111, 97, 100], [115, 116, 111, 114, 101], [112, 111, 112], [100, 117, 112], [115, 119, 97, 112], [97, 100, 100], [115, 117, 98], [109, 117, 108], [100, 105, 118], [114, 101, 109], [110, 101, 103], [103, 111, 116, 111], [105, 102, 101, 113], [105, 102, 110, 101], [105, 102, 108, 116], [105, 102, 103, 101], [99, 109, 112, 101, 113], [99, 109, 112, 110, 101], [99, 109, 112, 108, 116], [99, 109, 112, 103, 101], [105, 102, 110, 117, 108, 108], [105, 102, 114, 101, 102], [115, 97, 109, 101], [111, 116, 104, 101, 114], [110, 101, 119], [103, 101, 116], [112, 117, 116], [103, 101, 116, 115], [112, 117, 116, 115], [105, 110, 116, 115], [114, 101, 102, 115], [108, 101, 110], [97, 116], [115, 101, 116], [105, 115], [99, 97, 115, 116], [99, 97, 108, 108], [102, 117, 110, 99], [114, 101, 116], [108, 101, 97, 118, 101], [116, 104, 114, 111, 119]]
def opL (s : Bs) : Option Nat := opWords.findIdx? (· == s)

def isW (t : Bs) (w : Wd) : Bool := w.text == t
def isW2 (t u : Bs) (w : Wd) : Bool := w.text == t || w.text == u
def isFresh (w : Wd) : Bool := w.kind == 1 && !keptL w.text
def isNum (lo hi : Int) (w : Wd) : Bool := w.kind == 2 && (decide (lo ≤ w.num) && decide (w.num ≤ hi))
def isType (w : Wd) : Bool := isW2 wVoid wInt w || isFresh w
def isInstr (w : Wd) : Bool := (opL w.text).isSome

def want (t : Bs) : Pr Unit := .test (isW t) (fun _ => .ret ()) (.fail 4 (.ret ()))
def skip (t : Bs) : Pr Bool := .test (isW t) (fun _ => .ret true) (.ret false)
def first (a b : Bs) : Pr Bool := .test (isW a) (fun _ => .ret true) ((want b).bind fun _ => .ret false)
def fresh : Pr Bs := .test isFresh (fun w => .ret w.text) (.fail 4 (.ret []))
def number (lo hi : Int) : Pr Int := .test (isNum lo hi) (fun w => .ret w.num) (.fail 4 (.ret 0))
def rowOf (one row : Int) (n : Bs) : Pr Ty := .test (isW wLK) (fun _ => (want wRK).bind fun _ => .ret ⟨row, n⟩) (.ret ⟨one, n⟩)
def typed : Pr Ty := .test (isW wVoid) (fun _ => .ret ⟨1, []⟩) (.test (isW wInt) (fun _ => rowOf 2 4 []) (fresh.bind fun n => rowOf 3 5 n))
def listedGo {α : Type} (q : Wd → Bool) (item : Pr α) : Nat → List α → Pr (List α)
  | 0, acc => .test (isW wComma) (fun _ => .peek q (.fail 2 (.ret [])) (.fail 4 (.ret []))) (.ret acc)
  | n + 1, acc => .test (isW wComma) (fun _ => .peek q (item.bind fun a => listedGo q item n (acc ++ [a])) (.fail 4 (.ret []))) (.ret acc)
def listed {α : Type} (q : Wd → Bool) (item : Pr α) (most : Nat) : Pr (List α) := item.bind fun a => listedGo q item (most - 1) [a]
def many {α : Type} (q : Wd → Bool) (item : Pr α) : Nat → List α → Pr (List α)
  | 0, acc => .peek q (.fail 2 (.ret acc)) (.ret acc)
  | n + 1, acc => .peek q (item.bind fun a => many q item n (acc ++ [a])) (.ret acc)
def field : Pr Fld := (first wStatic wField).bind fun st => fresh.bind fun n => (want wColon).bind fun _ => typed.bind fun t => (want wSemi).bind fun _ => .ret ⟨n, t, st⟩
def shape (op : Nat) : Nat := if op = 1 then 1 else if op = 3 ∨ op = 4 then 2 else if 14 ≤ op ∧ op ≤ 26 then 3 else if op = 27 ∨ op = 33 ∨ op = 37 ∨ op = 38 then 4 else if (28 ≤ op ∧ op ≤ 31) ∨ op = 39 ∨ op = 40 then 5 else 0
def args (op : Nat) : Pr (Int × Bs × Bs) :=
  if shape op = 1 then (number (-2147483648) 2147483647).bind fun n => .ret (n, [], [])
  else if shape op = 2 then (number 0 7).bind fun n => .ret (n, [], [])
  else if shape op = 3 then (number 0 47).bind fun n => .ret (n, [], [])
  else if shape op = 4 then fresh.bind fun a => .ret (0, a, [])
  else if shape op = 5 then fresh.bind fun a => fresh.bind fun b => .ret (0, a, b)
  else .ret (0, [], [])
def instrOf (op : Nat) : Pr Ins := (args op).bind fun x => (want wSemi).bind fun _ => .ret ⟨op, x.1, x.2.1, x.2.2⟩
def instr : Pr Ins := .test isInstr (fun w => instrOf ((opL w.text).getD 0)) (.ret ⟨0, 0, [], []⟩)
def catch_ : Pr Ctc := (want wCatch).bind fun _ => fresh.bind fun n => (number 0 48).bind fun a => (number 0 48).bind fun b => (number 0 48).bind fun c => (want wSemi).bind fun _ => .ret ⟨n, a, b, c⟩
def body : Pr (Int × List Ins × List Ctc) := (want wLocals).bind fun _ => (number 0 8).bind fun n => (want wLB).bind fun _ => (many isInstr instr 48 []).bind fun c => (many (isW wCatch) catch_ 4 []).bind fun k => (want wRB).bind fun _ => .ret (n, c, k)
def params : Pr (List Ty) := .peek (isW wRP) (.ret []) (listed isType typed 4)
def bodyOr (ab : Bool) : Pr (Int × List Ins × List Ctc) := if ab = true then .ret (0, [], []) else body
def method : Pr Mth := (first wFunction wMethod).bind fun st => fresh.bind fun n => (want wLP).bind fun _ => params.bind fun ps => (want wRP).bind fun _ => typed.bind fun rt => (skip wSemi).bind fun ab =>
  (bodyOr ab).bind fun x => .ret ⟨n, st, ab, ps, rt, x.1, x.2.1, x.2.2⟩
def members : Nat → List Fld → List Mth → Pr (List Fld × List Mth)
  | 0, fs, ms => .peek (isW2 wField wStatic) (.fail 2 (.ret (fs, ms))) (.peek (isW2 wMethod wFunction) (.fail 2 (.ret (fs, ms))) (.ret (fs, ms)))
  | n + 1, fs, ms => .peek (isW2 wField wStatic) (if 6 ≤ fs.length then .fail 2 (.ret (fs, ms)) else field.bind fun f => members n (fs ++ [f]) ms)
      (.peek (isW2 wMethod wFunction) (if 6 ≤ ms.length then .fail 2 (.ret (fs, ms)) else method.bind fun m => members n fs (ms ++ [m])) (.ret (fs, ms)))
def superOr (ifc : Bool) : Pr Bs := if ifc = true then .ret [] else .test (isW wExtends) (fun _ => fresh) (.ret [])
def ifacesOf (t : Bs) : Pr (List Bs) := .test (isW t) (fun _ => listed isFresh fresh 4) (.ret [])
def cls : Pr Cls := (first wInterface wClass).bind fun ifc => fresh.bind fun n => (superOr ifc).bind fun sup => (ifacesOf (if ifc = true then wExtends else wImplements)).bind fun ifs =>
  (want wLB).bind fun _ => (members 12 [] []).bind fun m => (want wRB).bind fun _ => .ret ⟨n, ifc, sup, ifs, m.1, m.2⟩
def classes : Pr (List Cls) := many (isW2 wClass wInterface) cls 10 []
def progP : Pr (List Cls) := classes.bind fun cs => .peek (fun _ => true) (.fail 4 (.ret cs)) (.ret cs)

def place (tk : List Lx.Tok) (pl : Nat) (i : Nat) : Nat := match tk[i]? with
  | some t => t.pos
  | none => pl
def program (bs : List UInt8) : List Cls × Nat × Int :=
  let sc := Lx.scanL bs
  let r := progP.run (sc.1.map wd) ⟨0, (sc.2.2 : Int)⟩
  if r.2.e = 0 then (r.1, 0, 0) else ([], place sc.1 (if sc.2.2 = 0 then bs.length else sc.2.1) r.2.i, r.2.e)

theorem run_ret {α : Type} (C : List Wd) (a : α) (s : St) : (Pr.ret a).run C s = (a, s) := rfl
theorem run_fail {α : Type} (C : List Wd) (k : Int) (p : Pr α) (s : St) : (Pr.fail k p).run C s = p.run C (failS s k) := rfl
theorem run_peek {α : Type} (C : List Wd) (q : Wd → Bool) (y n : Pr α) (s : St) : (Pr.peek q y n).run C s = if has C s q = true then y.run C s else n.run C s := rfl

end Pp
end Go.Proofs.YtildjihgklgibaaDoor

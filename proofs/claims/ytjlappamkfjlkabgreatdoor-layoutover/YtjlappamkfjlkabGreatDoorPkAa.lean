/- What the laws of this seat lean on: 10 texts. -/
import Derived.Test.YtjlappamkfjlkabGreatDoorRows
import Derived.WalkKit
import Derived.WalkSpells
import Derived.WalkLawsBesides
import Derived.BigQuiet
import Derived.Deep.QuietTactic
import Derived.Lib.ItoaNum
set_option maxRecDepth 100000
set_option maxHeartbeats 64000000
set_option linter.unusedVariables false
set_option linter.unusedSimpArgs false
namespace Go.Proofs.YtjlappamkfjlkabGreatDoor
namespace Lx
def digI (c : Int) : Bool := decide (48 <= c /\ c <= 57)
def inwI (c : Int) : Bool := decide ((97 <= c /\ c <= 122) \/ (65 <= c /\ c <= 90) \/ (48 <= c /\ c <= 57) \/ c = 95)
def blkI (c : Int) : Bool := decide (c = 32 \/ c = 9 \/ c = 10 \/ c = 13)
def sgnI (c : Int) : Bool := decide (c = 123 \/ c = 125 \/ c = 40 \/ c = 41 \/ c = 58 \/ c = 59 \/ c = 44 \/ c = 91 \/ c = 93)
def dig (u : UInt8) : Bool := digI (u.toNat : Int)
def inw (u : UInt8) : Bool := inwI (u.toNat : Int)
def blk (u : UInt8) : Bool := blkI (u.toNat : Int)
def sgn (u : UInt8) : Bool := sgnI (u.toNat : Int)
def nameL : List UInt8 -> Bool
 | [] => false
 | c :: r => decide (r.length < 20) && !dig c && (c :: r).all inw
theorem take_snoc (s : ByteArray) (k : Nat) (h : k < s.size) : s.data.toList.take (k + 1) = s.data.toList.take k ++ [s[k]] := by
 rw [List.take_succ_eq_append_getElem (by simpa using h)]; rfl
theorem toList_len (s : ByteArray) : s.data.toList.length = s.size := by simp
theorem nameL_short (s : ByteArray) (h : s.size < 1) : nameL s.data.toList = false := by
 have hl := toList_len s; cases e : s.data.toList with
 | nil => rfl
 | cons c r => rw [e] at hl; simp at hl; omega
theorem nameL_long (s : ByteArray) (h : 20 < s.size) : nameL s.data.toList = false := by
 have hl := toList_len s; cases e : s.data.toList with
 | nil => rfl
 | cons c r => rw [e] at hl; simp at hl; simp [nameL]; intro h2; omega
theorem nameL_mid (s : ByteArray) (h : 1 <= s.size) (h20 : s.size <= 20) : nameL s.data.toList = (!dig s[0] && s.data.toList.all inw) := by
 have hl := toList_len s
 have h0 : s.data.toList[0]? = some s[0] := by
  rw [List.getElem?_eq_getElem (by omega)]; rfl
 cases e : s.data.toList with
 | nil => rw [e] at hl; simp at hl; omega
 | cons c r =>
   rw [e] at hl h0; simp at hl h0; subst h0; simp only [nameL]; rw [show decide (r.length < 20) = true from by simp; omega]; simp
theorem all_snoc (l : List UInt8) (c : UInt8) (p : UInt8 -> Bool) : (l ++ [c]).all p = (l.all p && p c) := by simp
def signL : List UInt8 -> Bool
 | [c] => sgn c
 | _ => false
def sizeGo : List UInt8 -> Nat -> Option Nat
 | [], n => some n
 | c :: r, n => if dig c = true then (if 2147483648 < n * 10 + (c.toNat - 48) then none else sizeGo r (n * 10 + (c.toNat - 48))) else none
def sizeL : List UInt8 -> Option Nat
 | [] => none
 | c :: r => if c.toNat = 48 /\ r ≠ [] then none else sizeGo (c :: r) 0
def negOf : Option Nat -> Option Int
 | some n => if n = 0 then none else some (-(n : Int))
 | none => none
def posOf : Option Nat -> Option Int
 | some n => if 2147483647 < n then none else some (n : Int)
 | none => none
def numL : List UInt8 -> Option Int
 | [] => none
 | c :: r => if c.toNat = 45 then negOf (sizeL r) else posOf (sizeL (c :: r))
end Lx
namespace Lx
def runLen (l : List UInt8) : Nat := (l.takeWhile inw).length
def wordLen : List UInt8 -> Nat
 | [] => 0
 | c :: r => if sgn c = true then 1 else if c.toNat = 45 then 1 + runLen r else runLen (c :: r)
end Lx
namespace Lx
structure Tok where
 kind : Int
 text : List UInt8
 num : Int
 pos : Nat
def tokOf (l : List UInt8) (p : Nat) : Option Tok :=
 if nameL l = true then some ⟨1, l, 0, p⟩ else
  match numL l with
  | some n => some ⟨2, [], n, p⟩
  | none => if signL l = true then some ⟨3, l, 0, p⟩ else none
def wordOf (l : List UInt8) : List UInt8 := l.take (wordLen l)
def scanGo : Nat -> List UInt8 -> Nat -> List Tok -> List Tok × Nat × Nat
 | 0, _, _, acc => (acc, 0, 0)
 | _ + 1, [], _, acc => (acc, 0, 0)
 | f + 1, c :: r, p, acc =>
   if blk c = true then scanGo f r (p + 1) acc else
    match tokOf (wordOf (c :: r)) p with
    | none => ([], p, 3)
    | some t => scanGo f ((c :: r).drop (wordLen (c :: r))) (p + wordLen (c :: r)) (acc ++ [t])
def scanL (bs : List UInt8) : List Tok × Nat × Nat := if 6000 < bs.length then ([], 0, 2) else scanGo bs.length bs 0 []
end Lx
namespace Pp
abbrev Bs := List UInt8
structure Wd where
 kind : Int
 text : Bs
 num : Int
def wd (t : Lx.Tok) : Wd := ⟨t.kind, t.text, t.num⟩
structure St where
 i : Nat
 e : Int
def cur (C : List Wd) (s : St) : Option Wd := if s.e = 0 then C[s.i]? else none
def failS (s : St) (k : Int) : St := if s.e = 0 then ⟨s.i, k⟩ else s
def St.adv (s : St) : St := ⟨s.i + 1, s.e⟩
def has (C : List Wd) (s : St) (q : Wd -> Bool) : Bool := match cur C s with
 | some t => q t
 | none => false
def Pr (α : Type) : Type := List Wd -> St -> α × St
def Pr.run {α : Type} (C : List Wd) (p : Pr α) (s : St) : α × St := p C s
def Pr.ret {α : Type} (a : α) : Pr α := fun _ s => (a, s)
def Pr.test {α : Type} (q : Wd -> Bool) (y : Wd -> Pr α) (n : Pr α) : Pr α := fun C s => if has C s q = true then (match cur C s with
 | some t => y t C s.adv
 | none => n C s) else n C s
def Pr.peek {α : Type} (q : Wd -> Bool) (y n : Pr α) : Pr α := fun C s => if has C s q = true then y C s else n C s
def Pr.fail {α : Type} (k : Int) (p : Pr α) : Pr α := fun C s => p C (failS s k)
def Pr.bind {α β : Type} (p : Pr α) (f : α -> Pr β) : Pr β := fun C s => f (p C s).1 C (p C s).2
theorem run_bind {α β : Type} (C : List Wd) (f : α -> Pr β) (p : Pr α) (s : St) : (p.bind f).run C s = (f (p.run C s).1).run C (p.run C s).2 := rfl
theorem test_run {α : Type} (C : List Wd) (q : Wd -> Bool) (y : Wd -> Pr α) (n : Pr α) (s : St) : (Pr.test q y n).run C s = if has C s q = true then (match cur C s with
 | some t => (y t).run C s.adv
 | none => n.run C s) else n.run C s := rfl
theorem peek_run {α : Type} (C : List Wd) (q : Wd -> Bool) (y n : Pr α) (s : St) : (Pr.peek q y n).run C s = if has C s q = true then y.run C s else n.run C s := rfl
structure Ty where
 kind : Int
 name : Bs
structure Fld where
 name : Bs
 ty : Ty
 stat : Bool
structure Ins where
 op : Nat
 n : Int
 a : Bs
 b : Bs
structure Ctc where
 name : Bs
 lo : Int
 hi : Int
 pc : Int
structure Mth where
 name : Bs
 stat : Bool
 abst : Bool
 params : List Ty
 ret : Ty
 locals : Int
 code : List Ins
 catches : List Ctc
structure Cls where
 name : Bs
 iface : Bool
 super : Bs
 ifaces : List Bs
 fields : List Fld
 methods : List Mth
def wClass : Bs := [99, 108, 97, 115, 115]
def wInterface : Bs := [105, 110, 116, 101, 114, 102, 97, 99, 101]
def wExtends : Bs := [101, 120, 116, 101, 110, 100, 115]
def wImplements : Bs := [105, 109, 112, 108, 101, 109, 101, 110, 116, 115]
def wField : Bs := [102, 105, 101, 108, 100]
def wStatic : Bs := [115, 116, 97, 116, 105, 99]
def wMethod : Bs := [109, 101, 116, 104, 111, 100]
def wFunction : Bs := [102, 117, 110, 99, 116, 105, 111, 110]
def wLocals : Bs := [108, 111, 99, 97, 108, 115]
def wCatch : Bs := [99, 97, 116, 99, 104]
def wInt : Bs := [105, 110, 116]
def wVoid : Bs := [118, 111, 105, 100]
def wLB : Bs := [123]
def wRB : Bs := [125]
def wLP : Bs := [40]
def wRP : Bs := [41]
def wColon : Bs := [58]
def wSemi : Bs := [59]
def wComma : Bs := [44]
def wLK : Bs := [91]
def wRK : Bs := [93]
def keptWords : List Bs := [wClass, wInterface, wExtends, wImplements, wField, wStatic, wMethod, wFunction, wLocals, wCatch, wInt, wVoid]
def keptL (s : Bs) : Bool := keptWords.any (· == s)
def opWords : List Bs := [[110, 111, 112], [99, 111, 110, 115, 116], [110, 117, 108, 108], [108, 111, 97, 100], [115, 116, 111, 114, 101], [112, 111, 112], [100, 117, 112], [115, 119, 97, 112], [97, 100, 100], [115, 117, 98], [109, 117, 108], [100, 105, 118], [114, 101, 109], [110, 101, 103], [103, 111, 116, 111], [105, 102, 101, 113], [105, 102, 110, 101], [105, 102, 108, 116], [105, 102, 103, 101], [99, 109, 112, 101, 113], [99, 109, 112, 110, 101], [99, 109, 112, 108, 116], [99, 109, 112, 103, 101], [105, 102, 110, 117, 108, 108], [105, 102, 114, 101, 102], [115, 97, 109, 101], [111, 116, 104, 101, 114], [110, 101, 119], [103, 101, 116], [112, 117, 116], [103, 101, 116, 115], [112, 117, 116, 115], [105, 110, 116, 115], [114, 101, 102, 115], [108, 101, 110], [97, 116], [115, 101, 116], [105, 115], [99, 97, 115, 116], [99, 97, 108, 108], [102, 117, 110, 99], [114, 101, 116], [108, 101, 97, 118, 101], [116, 104, 114, 111, 119]]
def opL (s : Bs) : Option Nat := opWords.findIdx? (· == s)
def isW (t : Bs) (w : Wd) : Bool := w.text == t
def isW2 (t u : Bs) (w : Wd) : Bool := w.text == t || w.text == u
def isFresh (w : Wd) : Bool := w.kind == 1 && !keptL w.text
def isNum (lo hi : Int) (w : Wd) : Bool := w.kind == 2 && (decide (lo <= w.num) && decide (w.num <= hi))
def isType (w : Wd) : Bool := isW2 wVoid wInt w || isFresh w
def isInstr (w : Wd) : Bool := (opL w.text).isSome
def want (t : Bs) : Pr Unit := .test (isW t) (fun _ => .ret ()) (.fail 4 (.ret ()))
def skip (t : Bs) : Pr Bool := .test (isW t) (fun _ => .ret true) (.ret false)
def first (a b : Bs) : Pr Bool := .test (isW a) (fun _ => .ret true) ((want b).bind fun _ => .ret false)
def fresh : Pr Bs := .test isFresh (fun w => .ret w.text) (.fail 4 (.ret []))
def number (lo hi : Int) : Pr Int := .test (isNum lo hi) (fun w => .ret w.num) (.fail 4 (.ret 0))
def rowOf (one row : Int) (n : Bs) : Pr Ty := .test (isW wLK) (fun _ => (want wRK).bind fun _ => .ret ⟨row, n⟩) (.ret ⟨one, n⟩)
def typed : Pr Ty := .test (isW wVoid) (fun _ => .ret ⟨1, []⟩) (.test (isW wInt) (fun _ => rowOf 2 4 []) (fresh.bind fun n => rowOf 3 5 n))
def listedGo {α : Type} (q : Wd -> Bool) (item : Pr α) : Nat -> List α -> Pr (List α)
 | 0, acc => .test (isW wComma) (fun _ => .peek q (.fail 2 (.ret [])) (.fail 4 (.ret []))) (.ret acc)
 | n + 1, acc => .test (isW wComma) (fun _ => .peek q (item.bind fun a => listedGo q item n (acc ++ [a])) (.fail 4 (.ret []))) (.ret acc)
def listed {α : Type} (q : Wd -> Bool) (item : Pr α) (most : Nat) : Pr (List α) := item.bind fun a => listedGo q item (most - 1) [a]
def many {α : Type} (q : Wd -> Bool) (item : Pr α) : Nat -> List α -> Pr (List α)
 | 0, acc => .peek q (.fail 2 (.ret acc)) (.ret acc)
 | n + 1, acc => .peek q (item.bind fun a => many q item n (acc ++ [a])) (.ret acc)
def field : Pr Fld := (first wStatic wField).bind fun st => fresh.bind fun n => (want wColon).bind fun _ => typed.bind fun t => (want wSemi).bind fun _ => .ret ⟨n, t, st⟩
def shape (op : Nat) : Nat := if op = 1 then 1 else if op = 3 \/ op = 4 then 2 else if 14 <= op /\ op <= 26 then 3 else if op = 27 \/ op = 33 \/ op = 37 \/ op = 38 then 4 else if (28 <= op /\ op <= 31) \/ op = 39 \/ op = 40 then 5 else 0
def args (op : Nat) : Pr (Int × Bs × Bs) :=
 if shape op = 1 then (number (-2147483648) 2147483647).bind fun n => .ret (n, [], [])
 else if shape op = 2 then (number 0 7).bind fun n => .ret (n, [], [])
 else if shape op = 3 then (number 0 47).bind fun n => .ret (n, [], [])
 else if shape op = 4 then fresh.bind fun a => .ret (0, a, [])
 else if shape op = 5 then fresh.bind fun a => fresh.bind fun b => .ret (0, a, b)
 else .ret (0, [], [])
def instrOf (op : Nat) : Pr Ins := (args op).bind fun x => (want wSemi).bind fun _ => .ret ⟨op, x.1, x.2.1, x.2.2⟩
def instr : Pr Ins := .test isInstr (fun w => instrOf ((opL w.text).getD 0)) (.ret ⟨0, 0, [], []⟩)
def catch_ : Pr Ctc := (want wCatch).bind fun _ => fresh.bind fun n => (number 0 48).bind fun a => (number 0 48).bind fun b => (number 0 48).bind fun c => (want wSemi).bind fun _ => .ret ⟨n, a, b, c⟩
def body : Pr (Int × List Ins × List Ctc) := (want wLocals).bind fun _ => (number 0 8).bind fun n => (want wLB).bind fun _ => (many isInstr instr 48 []).bind fun c => (many (isW wCatch) catch_ 4 []).bind fun k => (want wRB).bind fun _ => .ret (n, c, k)
def params : Pr (List Ty) := .peek (isW wRP) (.ret []) (listed isType typed 4)
def bodyOr (ab : Bool) : Pr (Int × List Ins × List Ctc) := if ab = true then .ret (0, [], []) else body
def method : Pr Mth := (first wFunction wMethod).bind fun st => fresh.bind fun n => (want wLP).bind fun _ => params.bind fun ps => (want wRP).bind fun _ => typed.bind fun rt => (skip wSemi).bind fun ab =>
 (bodyOr ab).bind fun x => .ret ⟨n, st, ab, ps, rt, x.1, x.2.1, x.2.2⟩
def members : Nat -> List Fld -> List Mth -> Pr (List Fld × List Mth)
 | 0, fs, ms => .peek (isW2 wField wStatic) (.fail 2 (.ret (fs, ms))) (.peek (isW2 wMethod wFunction) (.fail 2 (.ret (fs, ms))) (.ret (fs, ms)))
 | n + 1, fs, ms => .peek (isW2 wField wStatic) (if 6 <= fs.length then .fail 2 (.ret (fs, ms)) else field.bind fun f => members n (fs ++ [f]) ms)
     (.peek (isW2 wMethod wFunction) (if 6 <= ms.length then .fail 2 (.ret (fs, ms)) else method.bind fun m => members n fs (ms ++ [m])) (.ret (fs, ms)))
def superOr (ifc : Bool) : Pr Bs := if ifc = true then .ret [] else .test (isW wExtends) (fun _ => fresh) (.ret [])
def ifacesOf (t : Bs) : Pr (List Bs) := .test (isW t) (fun _ => listed isFresh fresh 4) (.ret [])
def cls : Pr Cls := (first wInterface wClass).bind fun ifc => fresh.bind fun n => (superOr ifc).bind fun sup => (ifacesOf (if ifc = true then wExtends else wImplements)).bind fun ifs =>
 (want wLB).bind fun _ => (members 12 [] []).bind fun m => (want wRB).bind fun _ => .ret ⟨n, ifc, sup, ifs, m.1, m.2⟩
def classes : Pr (List Cls) := many (isW2 wClass wInterface) cls 10 []
def progP : Pr (List Cls) := classes.bind fun cs => .peek (fun _ => true) (.fail 4 (.ret cs)) (.ret cs)
def place (tk : List Lx.Tok) (pl : Nat) (i : Nat) : Nat := match tk[i]? with
 | some t => t.pos
 | none => pl
def program (bs : List UInt8) : List Cls × Nat × Int :=
 let sc := Lx.scanL bs
 let r := progP.run (sc.1.map wd) ⟨0, (sc.2.2 : Int)⟩
 if r.2.e = 0 then (r.1, 0, 0) else ([], place sc.1 (if sc.2.2 = 0 then bs.length else sc.2.1) r.2.i, r.2.e)
theorem run_fail {α : Type} (C : List Wd) (k : Int) (p : Pr α) (s : St) : (Pr.fail k p).run C s = p.run C (failS s k) := rfl
end Pp
open Go.RowKit
theorem ret_bool {a b : Bool} (h : a = true ↔ b = true) : Ending.returned (.bool a) = .returned (.bool b) := by rw [Bool.eq_iff_iff.2 h]
theorem isDigit_any (c : Int) (w : World) :
 Calls Tryz.prog 107 #[.int .u8 c] w fun e w' => e = .returned (.bool (Lx.digI c)) /\ w' = w := by
 go_enter Tryz.func107, Tryz.ntmps107; go_wp2
 all_goals (go_ret; exact ⟨ret_bool (by simp [Lx.digI]; omega), rfl⟩)
theorem inWord_any (c : Int) (w : World) :
 Calls Tryz.prog 108 #[.int .u8 c] w fun e w' => e = .returned (.bool (Lx.inwI c)) /\ w' = w := by
 go_enter Tryz.func108, Tryz.ntmps108; go_wp2
 all_goals (go_ret; exact ⟨ret_bool (by simp [Lx.inwI]; try omega), rfl⟩)
theorem Name_any (s : ByteArray) (hs : s.size <= maxLen) (w : World) :
 Calls Tryz.prog 92 #[.string s] w fun e w' => e = .returned (.bool (Lx.nameL s.data.toList)) /\ w' = w := by
 unfold maxLen at hs; by_cases h1 : s.size < 1
 · have Hf := Lx.nameL_short s h1
   rw [Hf]; clear Hf; go_enter Tryz.func92, Tryz.ntmps92; go_wp2; go_ret; exact ⟨rfl, rfl⟩
 by_cases h20 : 20 < s.size
 · have Hf := Lx.nameL_long s h20
   rw [Hf]; clear Hf; go_enter Tryz.func92, Tryz.ntmps92; go_wp2; go_ret; exact ⟨rfl, rfl⟩
 have Hf := Lx.nameL_mid s (by omega) (by omega)
 rw [Hf]; clear Hf; have h1' : 0 < s.size := by omega
 obtain ⟨R, hR⟩ : ∃ R : Bool, R = (!Lx.dig s[0] && s.data.toList.all Lx.inw) := ⟨_, rfl⟩; rw [<- hR]; have HR : Hid (R = (!Lx.dig s[0] && s.data.toList.all Lx.inw)) := hR; clear hR; cases hd : Lx.dig s[0] with
 | true =>
   have hd' : Lx.digI (s[0].toNat : Int) = true := hd; have HF : Hid (R = false) := by show _ = _; rw [HR.out, hd]; rfl
   clear hd; go_enter Tryz.func92, Tryz.ntmps92
   go_wp2_with (go_at_call 107; refine (isDigit_any _ _).mono ?_; rintro e w' ⟨rfl, rfl⟩)
   go_ret; exact ⟨ret_bool (by rw [HF.out]), rfl⟩
 | false =>
   have hd' : Lx.digI (s[0].toNat : Int) = false := hd; have HF : Hid (R = s.data.toList.all Lx.inw) := by show _ = _; rw [HR.out, hd]; rfl
   clear hd; go_enter Tryz.func92, Tryz.ntmps92
   go_wp2_with (go_at_call 107; refine (isDigit_any _ _).mono ?_; rintro e w' ⟨rfl, rfl⟩)
   go_loop [19] (fun i => ∃ k : Nat, k <= s.size /\ i = .int .i64 k /\ (s.data.toList.take k).all Lx.inw = true) (fun i => s.size - (intOf i).toNat)
   case atStart => exact ⟨0, Nat.zero_le _, rfl, rfl⟩
   case round =>
    obtain ⟨k, hk, rfl, hall⟩ := hrel; have Hall := hall; clear hall; by_cases hlt : k < s.size
    · have hts := Lx.take_snoc s k hlt
      have HT : Hid ((s.data.toList.take (k + 1)).all Lx.inw = ((s.data.toList.take k).all Lx.inw && Lx.inw s[k])) := by rw [hts]; exact Lx.all_snoc _ _ _
      clear hts; have HA : Hid ((s.data.toList.take k).all Lx.inw = true) := Hall; clear Hall; cases hw : Lx.inw s[k] with
      | true =>
        have hw' : Lx.inwI (s[k].toNat : Int) = true := hw; have HW : Hid (Lx.inw s[k] = true) := hw; clear hw
        go_wp2_with (go_at_call 108; refine (inWord_any _ _).mono ?_; rintro e w' ⟨rfl, rfl⟩)
        go_round
        case rel => exact ⟨k + 1, by omega, by go_num, by rw [HT.out, HA.out, HW.out]; rfl⟩
        case measure => simp [intOf]; omega
      | false =>
        have hw' : Lx.inwI (s[k].toNat : Int) = false := hw
        have HN : Hid (s.data.toList.all Lx.inw = false) := by
         show _ = _; rw [Bool.eq_false_iff]; intro h; have := List.all_eq_true.1 h s[k] (by simp [ByteArray.getElem_eq_getElem_data])
         rw [hw] at this; cases this
        clear hw
        go_wp2_with (go_at_call 108; refine (inWord_any _ _).mono ?_; rintro e w' ⟨rfl, rfl⟩)
        go_ret; exact ⟨ret_bool (by rw [HF.out, HN.out]), rfl⟩
    · have HN : Hid (s.data.toList.all Lx.inw = true) := by
       show _ = _; rw [<- Hall, List.take_of_length_le (by simp; omega)]
      clear Hall; go_wp2; go_ret; exact ⟨ret_bool (by rw [HF.out, HN.out]), rfl⟩
def strV (l : List UInt8) : Value := .string ⟨l.toArray⟩
structure TabS (w : World) : Prop where
 words : ∀ i t, Pp.opWords[i]? = some t -> w.cell? ⟨1, i, none⟩ = some (strV t)
 kept : ∀ i t, Pp.keptWords[i]? = some t -> w.cell? ⟨0, i, none⟩ = some (strV t)
theorem TabS.below {w w' : World} (h : TabS w) (hb : Below w.heap.size w w') : TabS w' :=
 ⟨fun i t ht => (hb.cell (World.block_lt_of_cell? w _ (h.words i t ht))).trans (h.words i t ht), fun i t ht => (hb.cell (World.block_lt_of_cell? w _ (h.kept i t ht))).trans (h.kept i t ht)⟩
theorem hide {p : Prop} (h : p) : Hid p := h
namespace Pp
theorem any_step (K : List Bs) (s t : Bs) (k : Nat) (hk : k < K.length) (ht : t = K.getD k []) (hs : ¬ t = s) (h : (K.take k).any (· == s) = false) : (K.take (k + 1)).any (· == s) = false := by
 have e : K[k] = t := by rw [ht]; simp [List.getD, hk]
 rw [List.take_succ_eq_append_getElem hk, List.any_append, h, e]; simp [hs]
theorem any_at (K : List Bs) (s t : Bs) (k : Nat) (hk : k < K.length) (ht : t = K.getD k []) (hs : t = s) : K.any (· == s) = true := by
 rw [List.any_eq_true]; exact ⟨K[k], List.getElem_mem hk, by rw [<- hs, ht]; simp [List.getD, hk]⟩
theorem any_end (K : List Bs) (s : Bs) (k : Nat) (hk : ¬ k < K.length) (h : (K.take k).any (· == s) = false) : K.any (· == s) = false := by
 rw [List.take_of_length_le (by omega)] at h; exact h
theorem find_end (K : List Bs) (s : Bs) (k : Nat) (hk : ¬ k < K.length) (h : (K.take k).any (· == s) = false) : K.findIdx? (· == s) = none := by
 rw [List.take_of_length_le (by omega)] at h
 rw [List.findIdx?_eq_none_iff]; intro x hx; rw [List.any_eq_false] at h; exact by simpa using h x hx
end Pp
theorem index_str (w : World) (A : Array Value) (t : TypeId) (n k : Nat) (l : List UInt8) (ht : Tryz.prog.underlying t = some (.array n 9)) (hk : k < n) (hA : A[k]? = some (.string ⟨l.toArray⟩)) :
 (Instr.index t (.agg A) (.int .i64 (k : Int))).run Tryz.prog w = .ok (.string ⟨l.toArray⟩) w := by
 have h1 : (0 : Int) <= (k : Int) /\ (k : Int) < (n : Int) := by omega
 simp [Instr.index, run_underlying ht, asIntOf, h1, go_sem]; rw [if_pos hk, hA]
 rfl
theorem Kept_any (s : List UInt8) (w : World) (ht : TabS w) :
 Calls Tryz.prog 93 #[.string ⟨s.toArray⟩] w fun e w' => e = .returned (.bool (Pp.keptL s)) /\ w' = w := by
 have h0 := ht.kept 0 _ rfl; have h1 := ht.kept 1 _ rfl; have h2 := ht.kept 2 _ rfl; have h3 := ht.kept 3 _ rfl; have h4 := ht.kept 4 _ rfl; have h5 := ht.kept 5 _ rfl; have h6 := ht.kept 6 _ rfl; have h7 := ht.kept 7 _ rfl; have h8 := ht.kept 8 _ rfl; have h9 := ht.kept 9 _ rfl; have h10 := ht.kept 10 _ rfl; have h11 := ht.kept 11 _ rfl; clear ht; unfold strV at *
 go_enter Tryz.func93, Tryz.ntmps93; go_wp2; clear h0 h1 h2 h3 h4 h5 h6 h7 h8 h9 h10 h11; obtain ⟨K, hK⟩ : ∃ K, K = Pp.keptWords := ⟨_, rfl⟩; have hL : Hid (K.length = 12) := by rw [hK]; exact hide rfl
 have hg : Hid (Pp.keptL s = K.any (· == s)) := by rw [hK]; rfl
 generalize hA : (#[_, _, _, _, _, _, _, _, _, _, _, _] : Array Value) = A; have hAK : A = (K.map fun t => Value.string ⟨t.toArray⟩).toArray := by rw [<- hA, hK]; rfl
 clear hA hK
 have hAt : ∀ k, k < 12 -> A[k]? = some (.string ⟨(K.getD k []).toArray⟩) := by
  intro k hk; rw [hAK]; simp [List.getD, show k < K.length by have := hL.out; omega]
 clear hAK
 go_loop [6] (fun i => ∃ k : Nat, k <= 12 /\ i = .int .i64 k /\ Hid ((K.take k).any (· == s) = false)) (fun i => 12 - (intOf i).toNat)
 case atStart => exact ⟨0, by omega, rfl, rfl⟩
 case round =>
  obtain ⟨k, hk, rfl, hp⟩ := hrel; by_cases hlt : k < 12
  · have hix := index_str w A 170 12 k _ Tryz.underlying170 hlt (hAt k hlt)
    clear hAt; obtain ⟨t, htt⟩ : ∃ t, t = K.getD k [] := ⟨_, rfl⟩; rw [<- htt] at hix; have HT := hide htt; clear htt; by_cases hts : t = s
    · have hr := hide (hg.out.trans (Pp.any_at K s t k (by rw [hL.out]; exact hlt) HT.out hts))
      subst hts; go_wp2; go_ret; rw [hr.out]; exact ⟨rfl, rfl⟩
    · have hr := hide (Pp.any_step K s t k (by rw [hL.out]; exact hlt) HT.out hts hp.out)
      have hne : (t == s) = false := by simp [hts]
      go_wp2
      go_round
      case rel => exact ⟨k + 1, by omega, by go_num, hr⟩
      case measure => simp [intOf]; omega
  · have hr := hide (hg.out.trans (Pp.any_end K s k (by rw [hL.out]; exact hlt) hp.out))
    clear hAt; go_wp2; go_ret; rw [hr.out]; exact ⟨rfl, rfl⟩
theorem Word_in (k : Nat) (hk : k < 44) (w : World) (ht : TabS w) :
 Calls Tryz.prog 122 #[.int .i64 (k : Int)] w fun e w' => e = .returned (.string ⟨(Pp.opWords.getD k []).toArray⟩) /\ w' = w := by
 obtain ⟨t, htt⟩ : ∃ t, t = Pp.opWords.getD k [] := ⟨_, rfl⟩
 have hc := ht.words k t (by
  have hl : k < Pp.opWords.length := hk
  rw [htt, List.getElem?_eq_getElem hl]; simp [List.getD, hl])
 unfold strV at hc; rw [<- htt]; clear htt ht; go_enter Tryz.func122, Tryz.ntmps122; go_wp2; go_ret; exact ⟨rfl, rfl⟩
theorem Word_out (k : Int) (hk : k < 0 \/ 44 <= k) (w : World) :
 Calls Tryz.prog 122 #[.int .i64 k] w fun e w' => e = .returned (.string ⟨#[]⟩) /\ w' = w := by
 go_enter Tryz.func122, Tryz.ntmps122
 rcases hk with hk | hk
 all_goals (go_wp2; go_ret; exact ⟨rfl, rfl⟩)
namespace Pp
theorem has_off (C : List Wd) (s : St) (q : Wd -> Bool) (h : s.e ≠ 0) : has C s q = false := by simp [has, cur, h]
theorem failS_off (s : St) (k : Int) (h : s.e ≠ 0) : failS s k = s := by simp [failS, h]
theorem failS_i (s : St) (k : Int) : (failS s k).i = s.i := by unfold failS; split <;> rfl
theorem run_test {α : Type} (C : List Wd) (q : Wd -> Bool) (y : Wd -> Pr α) (n : Pr α) (s : St) (t : Wd) (h : has C s q = true) (ht : cur C s = some t) : (Pr.test q y n).run C s = (y t).run C s.adv := by
 rw [test_run, if_pos h, ht]
theorem run_test_no {α : Type} (C : List Wd) (q : Wd -> Bool) (y : Wd -> Pr α) (n : Pr α) (s : St) (h : has C s q = false) : (Pr.test q y n).run C s = n.run C s := by
 rw [test_run, if_neg (by rw [h]; exact Bool.false_ne_true)]
theorem run_peek_yes {α : Type} {C : List Wd} {q : Wd -> Bool} {s : St} (h : has C s q = true) (y n : Pr α) : (Pr.peek q y n).run C s = y.run C s := by rw [peek_run, if_pos h]
theorem run_peek_no {α : Type} {C : List Wd} {q : Wd -> Bool} {s : St} (h : has C s q = false) (y n : Pr α) : (Pr.peek q y n).run C s = n.run C s := by rw [peek_run, if_neg (by rw [h]; exact Bool.false_ne_true)]
theorem has_cur {C : List Wd} {s : St} {q : Wd -> Bool} (h : has C s q = true) : ∃ t, cur C s = some t /\ q t = true /\ s.e = 0 := by
 unfold has at h
 split at h
 · rename_i t ht
   refine ⟨t, ht, h, ?_⟩; unfold cur at ht
   split at ht
   · assumption
   · cases ht
 · cases h
theorem has_same {C C' : List Wd} {s : St} (h : C'[s.i]? = C[s.i]?) (q : Wd -> Bool) : has C' s q = has C s q := by unfold has cur; rw [h]
theorem cur_same {C C' : List Wd} {s : St} (h : C'[s.i]? = C[s.i]?) : cur C' s = cur C s := by unfold cur; rw [h]
def St.up (n : Nat) (s : St) : St := ⟨n + s.i, s.e⟩
theorem has_shift (A B : List Wd) (s : St) (q : Wd -> Bool) : has (A ++ B) (s.up A.length) q = has B s q := by
 unfold has cur St.up; simp only; rw [List.getElem?_append_right (by omega), Nat.add_sub_cancel_left]
theorem cur_shift (A B : List Wd) (s : St) : cur (A ++ B) (s.up A.length) = cur B s := by
 unfold cur St.up; simp only; rw [List.getElem?_append_right (by omega), Nat.add_sub_cancel_left]
theorem up_adv (n : Nat) (s : St) : (s.up n).adv = s.adv.up n := rfl
theorem up_fail (n : Nat) (s : St) (k : Int) : failS (s.up n) k = (failS s k).up n := by
 unfold failS St.up
 split <;> rfl
structure Law {α : Type} (p : Pr α) : Prop where
 stuck : ∀ C s, s.e ≠ 0 -> (p.run C s).2 = s
 mono : ∀ C s, s.i <= (p.run C s).2.i
 loc : ∀ C C' s, (∀ j, s.i <= j -> j <= (p.run C s).2.i -> C'[j]? = C[j]?) -> p.run C' s = p.run C s
 shift : ∀ A B s, p.run (A ++ B) (s.up A.length) = ((p.run B s).1, (p.run B s).2.up A.length)
section
variable {α β : Type}
theorem Law.ret (a : α) : Law (Pr.ret a) := ⟨fun _ _ _ => rfl, fun _ _ => Nat.le_refl _, fun _ _ _ _ => rfl, fun _ _ _ => rfl⟩
theorem Law.fail {p : Pr α} (h : Law p) (k : Int) : Law (Pr.fail k p) :=
 ⟨fun C s hs => by rw [run_fail, failS_off s k hs]; exact h.stuck C s hs,
  fun C s => by rw [run_fail]; have := h.mono C (failS s k); rw [failS_i] at this; exact this,
  fun C C' s hs => by rw [run_fail] at hs ⊢; rw [run_fail]; exact h.loc C C' (failS s k) (fun j hj hj2 => hs j (by rw [failS_i] at hj; exact hj) hj2),
  fun A B s => by rw [run_fail, run_fail, up_fail]; exact h.shift A B (failS s k)⟩
theorem Law.peek {y n : Pr α} (hy : Law y) (hn : Law n) (q : Wd -> Bool) : Law (Pr.peek q y n) where
 stuck C s hs := by rw [run_peek_no (has_off C s q hs)]; exact hn.stuck C s hs
 mono C s := by
  cases h : has C s q with
  | true => rw [run_peek_yes h]; exact hy.mono C s
  | false => rw [run_peek_no h]; exact hn.mono C s
 loc C C' s hs := by
  have h0 : C'[s.i]? = C[s.i]? := hs s.i (Nat.le_refl _) (by
   cases h : has C s q with
   | true => rw [run_peek_yes h]; exact hy.mono C s
   | false => rw [run_peek_no h]; exact hn.mono C s)
  cases h : has C s q with
  | true =>
    rw [run_peek_yes h] at hs ⊢; rw [run_peek_yes (by rw [has_same h0]; exact h)]
    exact hy.loc C C' s hs
  | false =>
    rw [run_peek_no h] at hs ⊢; rw [run_peek_no (by rw [has_same h0]; exact h)]
    exact hn.loc C C' s hs
 shift A B s := by
  cases h : has B s q with
  | true => rw [run_peek_yes h, run_peek_yes (by rw [has_shift]; exact h)]; exact hy.shift A B s
  | false => rw [run_peek_no h, run_peek_no (by rw [has_shift]; exact h)]; exact hn.shift A B s
theorem Law.test {y : Wd -> Pr α} {n : Pr α} (hy : ∀ t, Law (y t)) (hn : Law n) (q : Wd -> Bool) : Law (Pr.test q y n) where
 stuck C s hs := by rw [run_test_no _ _ _ _ _ (has_off C s q hs)]; exact hn.stuck C s hs
 mono C s := by
  cases h : has C s q with
  | true =>
    obtain ⟨t, ht, _, _⟩ := has_cur h; rw [run_test _ _ _ _ _ t h ht]; exact Nat.le_trans (Nat.le_succ _) ((hy t).mono C s.adv)
  | false => rw [run_test_no _ _ _ _ _ h]; exact hn.mono C s
 loc C C' s hs := by
  have h0 : C'[s.i]? = C[s.i]? := hs s.i (Nat.le_refl _) (by
   cases h : has C s q with
   | true =>
     obtain ⟨t, ht, _, _⟩ := has_cur h; rw [run_test _ _ _ _ _ t h ht]; exact Nat.le_trans (Nat.le_succ _) ((hy t).mono C s.adv)
   | false => rw [run_test_no _ _ _ _ _ h]; exact hn.mono C s)
  cases h : has C s q with
  | true =>
    obtain ⟨t, ht, _, _⟩ := has_cur h; rw [run_test C q y n s t h ht] at hs ⊢; rw [run_test C' q y n s t (by rw [has_same h0]; exact h) (by rw [cur_same h0]; exact ht)]
    exact (hy t).loc C C' s.adv (fun j hj hj2 => hs j (Nat.le_trans (Nat.le_succ _) hj) hj2)
  | false =>
    rw [run_test_no C q y n s h] at hs ⊢; rw [run_test_no C' q y n s (by rw [has_same h0]; exact h)]
    exact hn.loc C C' s hs
 shift A B s := by
  cases h : has B s q with
  | true =>
    obtain ⟨t, ht, _, _⟩ := has_cur h; rw [run_test B q y n s t h ht, run_test (A ++ B) q y n _ t (by rw [has_shift]; exact h) (by rw [cur_shift]; exact ht), up_adv]
    exact (hy t).shift A B s.adv
  | false =>
    rw [run_test_no B q y n s h, run_test_no (A ++ B) q y n _ (by rw [has_shift]; exact h)]
    exact hn.shift A B s
theorem Law.bind {p : Pr α} {f : α -> Pr β} (hp : Law p) (hf : ∀ a, Law (f a)) : Law (p.bind f) where
 stuck C s hs := by
  have h1 := hp.stuck C s hs; rw [run_bind, h1]; exact (hf _).stuck C s hs
 mono C s := by rw [run_bind]; exact Nat.le_trans (hp.mono C s) ((hf _).mono C _)
 loc C C' s hs := by
  rw [run_bind] at hs ⊢; have h1 : p.run C' s = p.run C s := hp.loc C C' s (fun j hj hj2 => hs j hj (Nat.le_trans hj2 ((hf _).mono C _))); rw [run_bind, h1]; exact (hf _).loc C C' _ (fun j hj hj2 => hs j (Nat.le_trans (hp.mono C s) hj) hj2)
 shift A B s := by
  rw [run_bind, hp.shift A B s, run_bind]; exact (hf _).shift A B _
end
def clsOpen : Pr Cls := (first wInterface wClass).bind fun ifc => fresh.bind fun n => (superOr ifc).bind fun sup => (ifacesOf (if ifc = true then wExtends else wImplements)).bind fun ifs =>
 (want wLB).bind fun _ => (members 12 [] []).bind fun m => .ret ⟨n, ifc, sup, ifs, m.1, m.2⟩
theorem cls_open : cls = clsOpen.bind fun c => (want wRB).bind fun _ => .ret c := rfl
end Pp
end Go.Proofs.YtjlappamkfjlkabGreatDoor
namespace Go.Proofs.YtjlappamkfjlkabGreatDoor
namespace Pp
end Pp
end Go.Proofs.YtjlappamkfjlkabGreatDoor
namespace Go.Proofs.YtjlappamkfjlkabGreatDoor
namespace Pp
theorem has_end (P : List Wd) (s : St) (q : Wd -> Bool) (h : s.i = P.length) : has P s q = false := by
 unfold has cur
 split
 · rename_i t ht
   split at ht
   · rw [List.getElem?_eq_none (by omega)] at ht; cases ht
   · cases ht
 · rfl
structure Good {α : Type} (p : Pr α) : Prop where
 law : Law p
 fin : ∀ (P : List Wd) (s : St), s.e = 0 -> s.i = P.length -> (p.run P s).2.i = P.length /\ ((p.run P s).2.e = 0 \/ (p.run P s).2.e = 4)
 cut : ∀ (P R : List Wd) (s : St), s.e = 0 -> s.i <= P.length -> (p.run (P ++ R) s).2.e = 0 ->
  (p.run P s = p.run (P ++ R) s /\ (p.run (P ++ R) s).2.i <= P.length) \/ ((p.run P s).2.i = P.length /\ ((p.run P s).2.e = 0 \/ (p.run P s).2.e = 4))
section
variable {α β : Type}
theorem Good.ret (a : α) : Good (Pr.ret a) := ⟨Law.ret a, fun P s he hi => ⟨hi, .inl he⟩, fun P R s he hi h => .inl ⟨rfl, hi⟩⟩
theorem fail_run {p : Pr α} (hp : Law p) {k : Int} (hk : k ≠ 0) (C : List Wd) (s : St) (he : s.e = 0) : ((Pr.fail k p).run C s).2 = ⟨s.i, k⟩ := by
 rw [run_fail, show failS s k = ⟨s.i, k⟩ from by simp [failS, he], hp.stuck _ _ hk]
theorem Good.fail {p : Pr α} (hp : Law p) : Good (Pr.fail 4 p) :=
 ⟨Law.fail hp 4, fun P s he hi => by rw [fail_run hp (by decide) P s he]; exact ⟨hi, .inr rfl⟩,
  fun P R s he hi h => by rw [fail_run hp (by decide) _ s he] at h; cases h⟩
theorem Good.test {y : Wd -> Pr α} {n : Pr α} (hy : ∀ t, Good (y t)) (hn : Good n) (q : Wd -> Bool) : Good (Pr.test q y n) := by
 have hfin : ∀ (P : List Wd) (s : St), s.e = 0 -> s.i = P.length -> ((Pr.test q y n).run P s).2.i = P.length /\ (((Pr.test q y n).run P s).2.e = 0 \/ ((Pr.test q y n).run P s).2.e = 4) := fun P s he hi => by
  rw [run_test_no _ _ _ _ _ (has_end P s q hi)]; exact hn.fin P s he hi
 refine ⟨Law.test (fun t => (hy t).law) hn.law q, hfin, fun P R s he hi h => ?_⟩
 rcases Nat.lt_or_ge s.i P.length with hl | hl
 · have h0 : P[s.i]? = (P ++ R)[s.i]? := (List.getElem?_append_left hl).symm
   cases hh : has (P ++ R) s q with
   | true =>
     obtain ⟨t, ht, _, _⟩ := has_cur hh; rw [run_test (P ++ R) q y n s t hh ht] at h ⊢; rw [run_test P q y n s t (by rw [has_same h0]; exact hh) (by rw [cur_same h0]; exact ht)]
     exact (hy t).cut P R s.adv he hl h
   | false =>
     rw [run_test_no (P ++ R) q y n s hh] at h ⊢; rw [run_test_no P q y n s (by rw [has_same h0]; exact hh)]
     exact hn.cut P R s he hi h
 · exact .inr (hfin P s he (by omega))
theorem Good.peek {y n : Pr α} (hy : Good y) (hn : Good n) (q : Wd -> Bool) : Good (Pr.peek q y n) := by
 have hfin : ∀ (P : List Wd) (s : St), s.e = 0 -> s.i = P.length -> ((Pr.peek q y n).run P s).2.i = P.length /\ (((Pr.peek q y n).run P s).2.e = 0 \/ ((Pr.peek q y n).run P s).2.e = 4) := fun P s he hi => by
  rw [run_peek_no (has_end P s q hi)]; exact hn.fin P s he hi
 refine ⟨Law.peek hy.law hn.law q, hfin, fun P R s he hi h => ?_⟩
 rcases Nat.lt_or_ge s.i P.length with hl | hl
 · have h0 : P[s.i]? = (P ++ R)[s.i]? := (List.getElem?_append_left hl).symm
   cases hh : has (P ++ R) s q with
   | true =>
     rw [run_peek_yes hh] at h ⊢; rw [run_peek_yes (by rw [has_same h0]; exact hh)]
     exact hy.cut P R s he hi h
   | false =>
     rw [run_peek_no hh] at h ⊢; rw [run_peek_no (by rw [has_same h0]; exact hh)]
     exact hn.cut P R s he hi h
 · exact .inr (hfin P s he (by omega))
theorem Good.bind {p : Pr α} {f : α -> Pr β} (hp : Good p) (hf : ∀ a, Good (f a)) : Good (p.bind f) := by
 refine ⟨Law.bind hp.law fun a => (hf a).law, fun P s he hi => ?_, fun P R s he hi h => ?_⟩
 · rw [run_bind]
   obtain ⟨h1, h2 | h2⟩ := hp.fin P s he hi
   · exact (hf _).fin P _ h2 h1
   · rw [(hf _).law.stuck P _ (by rw [h2]; decide)]; exact ⟨h1, .inr h2⟩
 · rw [run_bind] at h ⊢
   rw [run_bind]
   have he1 : (p.run (P ++ R) s).2.e = 0 := by
    rcases Decidable.em ((p.run (P ++ R) s).2.e = 0) with h1 | h1
    · exact h1
    · rw [(hf _).law.stuck _ _ h1] at h; exact absurd h h1
   rcases hp.cut P R s he hi he1 with ⟨h1, h2⟩ | ⟨h1, h2 | h2⟩
   · rw [h1]
     exact (hf _).cut P R _ he1 h2 h
   · exact .inr ((hf _).fin P _ h2 h1)
   · right
     rw [(hf _).law.stuck P _ (by rw [h2]; decide)]; exact ⟨h1, .inr h2⟩
end
end Pp
end Go.Proofs.YtjlappamkfjlkabGreatDoor
namespace Go.Proofs.YtjlappamkfjlkabGreatDoor
namespace Pp
def nm (s : Bs) : Wd := ⟨1, s, 0⟩
def hd (l : List Wd) (q : Wd -> Bool) : Bool := match l with
 | [] => false
 | w :: _ => q w
theorem has_at (A l : List Wd) (q : Wd -> Bool) : has (A ++ l) ⟨A.length, 0⟩ q = hd l q := by
 unfold has cur hd; simp only [if_true]; rw [List.getElem?_append_right (Nat.le_refl _), Nat.sub_self]; cases l <;> rfl
def Reads {α : Type} (p : Pr α) (ws rest : List Wd) (a : α) : Prop := ∀ A : List Wd, p.run (A ++ (ws ++ rest)) ⟨A.length, 0⟩ = (a, ⟨A.length + ws.length, 0⟩)
section
variable {α β : Type}
theorem Reads.ret (a : α) (rest : List Wd) : Reads (Pr.ret a) [] rest a := fun A => rfl
theorem Reads.bind {p : Pr α} {f : α -> Pr β} {u v rest : List Wd} {a : α} {b : β} (hp : Reads p u (v ++ rest) a) (hf : Reads (f a) v rest b) : Reads (p.bind f) (u ++ v) rest b := fun A => by
 rw [run_bind, List.append_assoc, hp A]; have h := hf (A ++ u); rw [List.append_assoc, List.length_append] at h; rw [h, List.length_append, Nat.add_assoc]
theorem Reads.test {q : Wd -> Bool} {y : Wd -> Pr α} {n : Pr α} {w : Wd} {ws rest : List Wd} {a : α} (hq : q w = true) (hy : Reads (y w) ws rest a) : Reads (Pr.test q y n) (w :: ws) rest a := fun A => by
 rw [test_run, if_pos (by rw [has_at]; exact hq)]
 have hc : cur (A ++ (w :: ws ++ rest)) ⟨A.length, 0⟩ = some w := by
  unfold cur; simp only [if_true]; rw [List.getElem?_append_right (Nat.le_refl _), Nat.sub_self]; rfl
 rw [hc]; have h := hy (A ++ [w]); rw [List.append_assoc, List.length_append] at h; show (y w).run (A ++ (w :: ws ++ rest)) ⟨A.length + 1, 0⟩ = _; have e : A ++ (w :: ws ++ rest) = A ++ ([w] ++ (ws ++ rest)) := rfl; rw [e]; refine h.trans ?_; simp only [List.length_cons, List.length_nil, Nat.zero_add, Prod.mk.injEq, true_and]
 congr 1
 omega
theorem Reads.peek {q : Wd -> Bool} {y n : Pr α} {ws rest : List Wd} {a : α} (hq : hd (ws ++ rest) q = true) (hy : Reads y ws rest a) : Reads (Pr.peek q y n) ws rest a := fun A => by
 rw [peek_run, if_pos (by rw [has_at, hq])]; exact hy A
end
end Pp
end Go.Proofs.YtjlappamkfjlkabGreatDoor
namespace Go.Proofs.YtjlappamkfjlkabGreatDoor
namespace Pp
def VW (C : List Wd) : Prop := ∀ w ∈ C, w.kind = 1 -> Lx.nameL w.text = true
def Ens {α : Type} (p : Pr α) (P : α -> Prop) : Prop := ∀ C s, VW C -> (p.run C s).2.e = 0 -> P (p.run C s).1
section
variable {α β : Type}
theorem Ens.ret {a : α} {P : α -> Prop} (h : P a) : Ens (Pr.ret a) P := fun _ _ _ _ => h
theorem Ens.fail {p : Pr α} {P : α -> Prop} (hp : Law p) {k : Int} (hk : k ≠ 0) : Ens (Pr.fail k p) P := fun C s _ h => by
 exfalso; rw [run_fail] at h; by_cases he : s.e = 0
 · rw [show failS s k = ⟨s.i, k⟩ from by simp [failS, he], hp.stuck _ _ hk] at h
   exact hk h
 · rw [failS_off s k he, hp.stuck _ _ he] at h
   exact he h
theorem Ens.test {q : Wd -> Bool} {y : Wd -> Pr α} {n : Pr α} {P : α -> Prop} (hy : ∀ t, (t.kind = 1 -> Lx.nameL t.text = true) -> q t = true -> Ens (y t) P) (hn : Ens n P) : Ens (Pr.test q y n) P := fun C s hC h => by
 cases hh : has C s q with
 | true =>
   obtain ⟨t, ht, hq, he⟩ := has_cur hh; rw [run_test C q y n s t hh ht] at h ⊢; refine hy t (hC t ?_) hq C s.adv hC h; unfold cur at ht; rw [if_pos he] at ht; exact List.mem_of_getElem? ht
 | false =>
   rw [run_test_no C q y n s hh] at h ⊢; exact hn C s hC h
theorem Ens.peek {q : Wd -> Bool} {y n : Pr α} {P : α -> Prop} (hy : Ens y P) (hn : Ens n P) : Ens (Pr.peek q y n) P := fun C s hC h => by
 cases hh : has C s q with
 | true => rw [run_peek_yes hh] at h ⊢; exact hy C s hC h
 | false => rw [run_peek_no hh] at h ⊢; exact hn C s hC h
theorem Ens.bind {p : Pr α} {f : α -> Pr β} {Q : α -> Prop} {P : β -> Prop} (hp : Ens p Q) (hl : ∀ a, Law (f a)) (hf : ∀ a, Q a -> Ens (f a) P) : Ens (p.bind f) P := fun C s hC h => by
 rw [run_bind] at h ⊢
 have he : (p.run C s).2.e = 0 := by
  rcases Decidable.em ((p.run C s).2.e = 0) with h1 | h1
  · exact h1
  · rw [(hl _).stuck C _ h1] at h; exact absurd h h1
 exact hf _ (hp C s hC he) C _ hC h
theorem Ens.any (p : Pr α) : Ens p (fun _ => True) := fun _ _ _ _ => trivial
theorem Ens.mono {p : Pr α} {P Q : α -> Prop} (h : Ens p P) (hq : ∀ a, P a -> Q a) : Ens p Q := fun C s hC he => hq _ (h C s hC he)
end
end Pp
namespace Lx
end Lx
end Go.Proofs.YtjlappamkfjlkabGreatDoor
namespace Go.Proofs.YtjlappamkfjlkabGreatDoor
namespace Lx
end Lx
end Go.Proofs.YtjlappamkfjlkabGreatDoor
namespace Go.Proofs.YtjlappamkfjlkabGreatDoor
namespace Lx
end Lx
end Go.Proofs.YtjlappamkfjlkabGreatDoor
namespace Go.Proofs.YtjlappamkfjlkabGreatDoor
namespace Lx
end Lx
end Go.Proofs.YtjlappamkfjlkabGreatDoor
namespace Go.Proofs.YtjlappamkfjlkabGreatDoor
namespace Lx
end Lx
namespace Pp
structure XIns where
 op : Int
 n : Int
 a : Bs
 b : Bs
structure XMth where
 name : Bs
 stat : Bool
 abst : Bool
 params : List Ty
 ret : Ty
 locals : Int
 code : List XIns
 catches : List Ctc
structure XCls where
 name : Bs
 iface : Bool
 super : Bs
 ifaces : List Bs
 fields : List Fld
 methods : List XMth
def freshB (s : Bs) : Bool := Lx.nameL s && !keptL s
def typeB (t : Ty) : Bool := if t.kind = 1 \/ t.kind = 2 \/ t.kind = 4 then t.name == [] else if t.kind = 3 \/ t.kind = 5 then freshB t.name else false
def withinB (n lo hi : Int) : Bool := decide (lo <= n) && decide (n <= hi)
def eachB {α : Type} (l : List α) (most : Nat) (f : α -> Bool) : Bool := decide (l.length <= most) && l.all f
def fldB (f : Fld) : Bool := freshB f.name && typeB f.ty
def argsX (op : Int) : Bool × Int × Int × Int :=
 if op = 1 then (true, -2147483648, 2147483647, 0) else if op = 3 \/ op = 4 then (true, 0, 7, 0) else if 14 <= op /\ op <= 26 then (true, 0, 47, 0)
 else if op = 27 \/ op = 33 \/ op = 37 \/ op = 38 then (false, 0, 0, 1) else if (28 <= op /\ op <= 31) \/ op = 39 \/ op = 40 then (false, 0, 0, 2) else (false, 0, 0, 0)
def argB (s : Bs) (has : Bool) : Bool := if has = true then freshB s else s == []
def insB (i : XIns) : Bool := (decide (0 <= i.op) && decide (i.op < 44)) && (withinB i.n (argsX i.op).2.1 (argsX i.op).2.2.1 && (argB i.a (decide (1 <= (argsX i.op).2.2.2)) && argB i.b (decide (2 <= (argsX i.op).2.2.2))))
def ctcB (c : Ctc) : Bool := freshB c.name && (withinB c.lo 0 48 && (withinB c.hi 0 48 && withinB c.pc 0 48))
def bodyB (m : XMth) : Bool := if m.abst = true then m.locals == 0 && (m.code.isEmpty && m.catches.isEmpty) else withinB m.locals 0 8 && (eachB m.code 48 insB && eachB m.catches 4 ctcB)
def mthB (m : XMth) : Bool := freshB m.name && (eachB m.params 4 typeB && (typeB m.ret && bodyB m))
def supB (c : XCls) : Bool := c.super == [] || (!c.iface && freshB c.super)
def clsB (c : XCls) : Bool := freshB c.name && (supB c && (eachB c.ifaces 4 freshB && (eachB c.fields 6 fldB && eachB c.methods 6 mthB)))
def progB (cs : List XCls) : Bool := eachB cs 10 clsB
theorem eachB_iff {α : Type} (l : List α) (most : Nat) (f : α -> Bool) : eachB l most f = true ↔ l.length <= most /\ ∀ x ∈ l, f x = true := by simp [eachB]
end Pp
open Go.RowKit
def RowX {α : Type} (w : World) (sz : Nat) (P : α -> List Value -> Prop) (v : Value) (l : List α) : Prop :=
 ∃ a c, v = .slice a l.length c /\ l.length <= c /\ (l = [] \/ ∃ b o, a = some ⟨b, o, none⟩ /\ b < w.heap.size /\ ∀ (k : Nat) (x : α), l[k]? = some x -> ∃ ys, P x ys /\ ∀ (j : Nat) (u : Value), ys[j]? = some u -> w.cell? ⟨b, o + k * sz + j, none⟩ = some u)
theorem RowX.on {α : Type} {w w' : World} {sz : Nat} {P P' : α -> List Value -> Prop} {v : Value} {l : List α} (h : RowX w sz P v l) (hb : Below w.heap.size w w') (hp : ∀ x ys, P x ys -> P' x ys) : RowX w' sz P' v l := by
 obtain ⟨a, c, rfl, hc, h⟩ := h; refine ⟨a, c, rfl, hc, ?_⟩
 rcases h with h | ⟨b, o, rfl, hlt, hx⟩
 · exact .inl h
 · refine .inr ⟨b, o, rfl, Nat.lt_of_lt_of_le hlt hb.size, fun k x hk => ?_⟩
   obtain ⟨ys, h1, h2⟩ := hx k x hk; exact ⟨ys, hp x ys h1, fun j u hj => (hb.cell (by exact hlt)).trans (h2 j u hj)⟩
theorem RowX.len {α : Type} {w : World} {sz : Nat} {P : α -> List Value -> Prop} {v : Value} {l : List α} (h : RowX w sz P v l) : ∃ a c, v = .slice a l.length c /\ l.length <= c := by
 obtain ⟨a, c, h1, h2, _⟩ := h; exact ⟨a, c, h1, h2⟩
def strL (s : Pp.Bs) : List Value := [.string ⟨s.toArray⟩]
def tyL (t : Pp.Ty) : List Value := [.int .i64 t.kind, .string ⟨t.name.toArray⟩]
def fldL (f : Pp.Fld) : List Value := [.string ⟨f.name.toArray⟩, .int .i64 f.ty.kind, .string ⟨f.ty.name.toArray⟩, .bool f.stat]
def insL (x : Pp.XIns) : List Value := [.int .i64 x.op, .int .i64 x.n, .string ⟨x.a.toArray⟩, .string ⟨x.b.toArray⟩]
def ctcL (c : Pp.Ctc) : List Value := [.string ⟨c.name.toArray⟩, .int .i64 c.lo, .int .i64 c.hi, .int .i64 c.pc]
def mthXL (m : Pp.XMth) (vp vc vk : Value) : List Value := [.string ⟨m.name.toArray⟩, .bool m.stat, .bool m.abst, vp, .int .i64 m.ret.kind, .string ⟨m.ret.name.toArray⟩, .int .i64 m.locals, vc, vk]
def clsXL (c : Pp.XCls) (vi vf vm : Value) : List Value := [.string ⟨c.name.toArray⟩, .bool c.iface, .string ⟨c.super.toArray⟩, vi, vf, vm]
def StrX (s : Pp.Bs) (ys : List Value) : Prop := ys = strL s /\ s.length <= maxLen
def TyX (t : Pp.Ty) (ys : List Value) : Prop := ys = tyL t /\ t.name.length <= maxLen
def FldX (f : Pp.Fld) (ys : List Value) : Prop := ys = fldL f /\ f.name.length <= maxLen /\ f.ty.name.length <= maxLen
def InsX (x : Pp.XIns) (ys : List Value) : Prop := ys = insL x /\ x.a.length <= maxLen /\ x.b.length <= maxLen
def CtcX (c : Pp.Ctc) (ys : List Value) : Prop := ys = ctcL c /\ c.name.length <= maxLen
def MthX (w : World) (m : Pp.XMth) (ys : List Value) : Prop := ∃ vp vc vk, ys = mthXL m vp vc vk /\ RowX w 2 TyX vp m.params /\ RowX w 4 InsX vc m.code /\ RowX w 4 CtcX vk m.catches /\
 m.name.length <= maxLen /\ m.ret.name.length <= maxLen /\ m.params.length <= maxLen /\ m.code.length <= maxLen /\ m.catches.length <= maxLen
def ClsX (w : World) (c : Pp.XCls) (ys : List Value) : Prop := ∃ vi vf vm, ys = clsXL c vi vf vm /\ RowX w 1 StrX vi c.ifaces /\ RowX w 4 FldX vf c.fields /\ RowX w 9 (MthX w) vm c.methods /\
 c.name.length <= maxLen /\ c.super.length <= maxLen /\ c.ifaces.length <= maxLen /\ c.fields.length <= maxLen /\ c.methods.length <= maxLen
def ProgX (w : World) (v : Value) (cs : List Pp.XCls) : Prop := RowX w 6 (ClsX w) v cs /\ cs.length <= maxLen
theorem MthX.on {w w' : World} {m : Pp.XMth} {ys : List Value} (h : MthX w m ys) (hb : Below w.heap.size w w') : MthX w' m ys := by
 obtain ⟨vp, vc, vk, rfl, h1, h2, h3, h4⟩ := h; exact ⟨vp, vc, vk, rfl, h1.on hb fun _ _ h => h, h2.on hb fun _ _ h => h, h3.on hb fun _ _ h => h, h4⟩
theorem ClsX.on {w w' : World} {c : Pp.XCls} {ys : List Value} (h : ClsX w c ys) (hb : Below w.heap.size w w') : ClsX w' c ys := by
 obtain ⟨vi, vf, vm, rfl, h1, h2, h3, h4⟩ := h; exact ⟨vi, vf, vm, rfl, h1.on hb fun _ _ h => h, h2.on hb fun _ _ h => h, h3.on hb fun _ _ h => h.on hb, h4⟩
theorem ProgX.on {w w' : World} {v : Value} {cs : List Pp.XCls} (h : ProgX w v cs) (hb : Below w.heap.size w w') : ProgX w' v cs := ⟨RowX.on h.1 hb fun _ _ h => h.on hb, h.2⟩
theorem cell_box {w : World} {b : Nat} {c : Array Value} {t : TypeId} {f : Nat × Nat} (h : w.heap[b]? = some (.cells c t f)) (k : Nat) : w.cell? ⟨b, k, none⟩ = c[k]? := cell_of_row w b k c t f h
theorem box_one {w w' : World} {c1 : Array Value} {t1 : TypeId} (hb : Below (w.alloc (.cells c1 t1)).heap.size (w.alloc (.cells c1 t1)) w') :
 (∀ k, w'.cell? ⟨w.heap.size, k, none⟩ = c1[k]?) /\ Below w.heap.size w w' /\ w.heap.size < w'.heap.size := by
 refine ⟨fun k => ?_, ((Below.refl _ _).alloc (Nat.le_refl _) _).trans (hb.mono (by simp)), by have := hb.size; simp at this; omega⟩
 refine cell_box (t := t1) (f := (0, 0)) ?_ k; rw [hb.block w.heap.size (by simp)]
 exact heap_alloc_new w _
namespace Pp
def LtF (f : Fld) : Prop := f.name.length <= 60 /\ f.ty.name.length <= 60
def LtI (x : XIns) : Prop := x.a.length <= 60 /\ x.b.length <= 60
def LtT (t : Ty) : Prop := t.name.length <= 60
def LtK (c : Ctc) : Prop := c.name.length <= 60
def LtS (s : Bs) : Prop := s.length <= 60
def LtM (m : XMth) : Prop := (m.name.length <= 60 /\ m.params.length <= 10 /\ m.code.length <= 60 /\ m.catches.length <= 10 /\ m.ret.name.length <= 60) /\ (∀ x ∈ m.code, LtI x) /\ (∀ t ∈ m.params, LtT t) /\ (∀ c ∈ m.catches, LtK c)
def LtC (c : XCls) : Prop := (c.fields.length <= 14 /\ c.methods.length <= 14 /\ c.ifaces.length <= 10 /\ c.name.length <= 60 /\ c.super.length <= 60) /\ (∀ f ∈ c.fields, LtF f) /\ (∀ s ∈ c.ifaces, LtS s) /\ (∀ m ∈ c.methods, LtM m)
def Light (cs : List XCls) : Prop := cs.length <= 14 /\ ∀ c ∈ cs, LtC c
theorem all_take {α : Type} {P : α -> Prop} {l : List α} {k : Nat} {x : α} (h : ∀ y ∈ l.take k, P y) (hx : l[k]? = some x) (hp : P x) : ∀ y ∈ l.take (k + 1), P y := by
 rw [List.take_add_one, hx]; intro y hy; rw [List.mem_append] at hy
 rcases hy with hy | hy
 · exact h y hy
 · simp at hy; subst hy; exact hp
theorem all_end {α : Type} {P : α -> Prop} {l : List α} {k : Nat} (h : ∀ y ∈ l.take k, P y) (hk : l.length <= k) : ∀ y ∈ l, P y := by
 rw [List.take_of_length_le hk] at h; exact h
end Pp
end Go.Proofs.YtjlappamkfjlkabGreatDoor

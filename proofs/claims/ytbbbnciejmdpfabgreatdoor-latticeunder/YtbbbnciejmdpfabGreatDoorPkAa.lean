/- What the laws of this seat lean on: 5 texts. -/
import Derived.Test.YtbbbnciejmdpfabGreatDoorRows
import Derived.WalkKit
import Derived.WalkSpells
import Derived.WalkLawsBesides
import Derived.BigQuiet
import Derived.Deep.QuietTactic
set_option maxRecDepth 100000
set_option maxHeartbeats 64000000
set_option linter.unusedVariables false
set_option linter.unusedSimpArgs false
namespace Go.Proofs.YtbbbnciejmdpfabGreatDoor
namespace Lx
def digI (c : Int) : Bool := decide (48 <= c /\ c <= 57)
def inwI (c : Int) : Bool := decide ((97 <= c /\ c <= 122) \/ (65 <= c /\ c <= 90) \/ (48 <= c /\ c <= 57) \/ c = 95)
def blkI (c : Int) : Bool := decide (c = 32 \/ c = 9 \/ c = 10 \/ c = 13)
def sgnI (c : Int) : Bool := decide (c = 123 \/ c = 125 \/ c = 40 \/ c = 41 \/ c = 58 \/ c = 59 \/ c = 44 \/ c = 91 \/ c = 93)
def dig (u : UInt8) : Bool := digI (u.toNat : Int)
def inw (u : UInt8) : Bool := inwI (u.toNat : Int)
def blk (u : UInt8) : Bool := blkI (u.toNat : Int)
def sgn (u : UInt8) : Bool := sgnI (u.toNat : Int)
def nameL : List UInt8 -> Bool
 | [] => false
 | c :: r => decide (r.length < 20) && !dig c && (c :: r).all inw
theorem take_snoc (s : ByteArray) (k : Nat) (h : k < s.size) : s.data.toList.take (k + 1) = s.data.toList.take k ++ [s[k]] := by
 rw [List.take_succ_eq_append_getElem (by simpa using h)]; rfl
theorem toList_len (s : ByteArray) : s.data.toList.length = s.size := by simp
theorem nameL_short (s : ByteArray) (h : s.size < 1) : nameL s.data.toList = false := by
 have hl := toList_len s; cases e : s.data.toList with
 | nil => rfl
 | cons c r => rw [e] at hl; simp at hl; omega
theorem nameL_long (s : ByteArray) (h : 20 < s.size) : nameL s.data.toList = false := by
 have hl := toList_len s; cases e : s.data.toList with
 | nil => rfl
 | cons c r => rw [e] at hl; simp at hl; simp [nameL]; intro h2; omega
theorem nameL_mid (s : ByteArray) (h : 1 <= s.size) (h20 : s.size <= 20) : nameL s.data.toList = (!dig s[0] && s.data.toList.all inw) := by
 have hl := toList_len s
 have h0 : s.data.toList[0]? = some s[0] := by
  rw [List.getElem?_eq_getElem (by omega)]; rfl
 cases e : s.data.toList with
 | nil => rw [e] at hl; simp at hl; omega
 | cons c r =>
   rw [e] at hl h0; simp at hl h0; subst h0; simp only [nameL]; rw [show decide (r.length < 20) = true from by simp; omega]; simp
theorem all_snoc (l : List UInt8) (c : UInt8) (p : UInt8 -> Bool) : (l ++ [c]).all p = (l.all p && p c) := by simp
def signL : List UInt8 -> Bool
 | [c] => sgn c
 | _ => false
def sizeGo : List UInt8 -> Nat -> Option Nat
 | [], n => some n
 | c :: r, n => if dig c = true then (if 2147483648 < n * 10 + (c.toNat - 48) then none else sizeGo r (n * 10 + (c.toNat - 48))) else none
def sizeL : List UInt8 -> Option Nat
 | [] => none
 | c :: r => if c.toNat = 48 /\ r ≠ [] then none else sizeGo (c :: r) 0
def negOf : Option Nat -> Option Int
 | some n => if n = 0 then none else some (-(n : Int))
 | none => none
def posOf : Option Nat -> Option Int
 | some n => if 2147483647 < n then none else some (n : Int)
 | none => none
def numL : List UInt8 -> Option Int
 | [] => none
 | c :: r => if c.toNat = 45 then negOf (sizeL r) else posOf (sizeL (c :: r))
end Lx
namespace Lx
def runLen (l : List UInt8) : Nat := (l.takeWhile inw).length
def wordLen : List UInt8 -> Nat
 | [] => 0
 | c :: r => if sgn c = true then 1 else if c.toNat = 45 then 1 + runLen r else runLen (c :: r)
end Lx
namespace Lx
structure Tok where
 kind : Int
 text : List UInt8
 num : Int
 pos : Nat
def tokOf (l : List UInt8) (p : Nat) : Option Tok :=
 if nameL l = true then some ⟨1, l, 0, p⟩ else
  match numL l with
  | some n => some ⟨2, [], n, p⟩
  | none => if signL l = true then some ⟨3, l, 0, p⟩ else none
def wordOf (l : List UInt8) : List UInt8 := l.take (wordLen l)
def scanGo : Nat -> List UInt8 -> Nat -> List Tok -> List Tok × Nat × Nat
 | 0, _, _, acc => (acc, 0, 0)
 | _ + 1, [], _, acc => (acc, 0, 0)
 | f + 1, c :: r, p, acc =>
   if blk c = true then scanGo f r (p + 1) acc else
    match tokOf (wordOf (c :: r)) p with
    | none => ([], p, 3)
    | some t => scanGo f ((c :: r).drop (wordLen (c :: r))) (p + wordLen (c :: r)) (acc ++ [t])
def scanL (bs : List UInt8) : List Tok × Nat × Nat := if 6000 < bs.length then ([], 0, 2) else scanGo bs.length bs 0 []
end Lx
namespace Pp
abbrev Bs := List UInt8
structure Wd where
 kind : Int
 text : Bs
 num : Int
def wd (t : Lx.Tok) : Wd := ⟨t.kind, t.text, t.num⟩
structure St where
 i : Nat
 e : Int
def cur (C : List Wd) (s : St) : Option Wd := if s.e = 0 then C[s.i]? else none
def failS (s : St) (k : Int) : St := if s.e = 0 then ⟨s.i, k⟩ else s
def St.adv (s : St) : St := ⟨s.i + 1, s.e⟩
def has (C : List Wd) (s : St) (q : Wd -> Bool) : Bool := match cur C s with
 | some t => q t
 | none => false
def Pr (α : Type) : Type := List Wd -> St -> α × St
def Pr.run {α : Type} (C : List Wd) (p : Pr α) (s : St) : α × St := p C s
def Pr.ret {α : Type} (a : α) : Pr α := fun _ s => (a, s)
def Pr.test {α : Type} (q : Wd -> Bool) (y : Wd -> Pr α) (n : Pr α) : Pr α := fun C s => if has C s q = true then (match cur C s with
 | some t => y t C s.adv
 | none => n C s) else n C s
def Pr.peek {α : Type} (q : Wd -> Bool) (y n : Pr α) : Pr α := fun C s => if has C s q = true then y C s else n C s
def Pr.fail {α : Type} (k : Int) (p : Pr α) : Pr α := fun C s => p C (failS s k)
def Pr.bind {α β : Type} (p : Pr α) (f : α -> Pr β) : Pr β := fun C s => f (p C s).1 C (p C s).2
theorem run_bind {α β : Type} (C : List Wd) (f : α -> Pr β) (p : Pr α) (s : St) : (p.bind f).run C s = (f (p.run C s).1).run C (p.run C s).2 := rfl
theorem test_run {α : Type} (C : List Wd) (q : Wd -> Bool) (y : Wd -> Pr α) (n : Pr α) (s : St) : (Pr.test q y n).run C s = if has C s q = true then (match cur C s with
 | some t => (y t).run C s.adv
 | none => n.run C s) else n.run C s := rfl
theorem peek_run {α : Type} (C : List Wd) (q : Wd -> Bool) (y n : Pr α) (s : St) : (Pr.peek q y n).run C s = if has C s q = true then y.run C s else n.run C s := rfl
structure Ty where
 kind : Int
 name : Bs
structure Fld where
 name : Bs
 ty : Ty
 stat : Bool
structure Ins where
 op : Nat
 n : Int
 a : Bs
 b : Bs
structure Ctc where
 name : Bs
 lo : Int
 hi : Int
 pc : Int
structure Mth where
 name : Bs
 stat : Bool
 abst : Bool
 params : List Ty
 ret : Ty
 locals : Int
 code : List Ins
 catches : List Ctc
structure Cls where
 name : Bs
 iface : Bool
 super : Bs
 ifaces : List Bs
 fields : List Fld
 methods : List Mth
def wClass : Bs := [99, 108, 97, 115, 115]
def wInterface : Bs := [105, 110, 116, 101, 114, 102, 97, 99, 101]
def wExtends : Bs := [101, 120, 116, 101, 110, 100, 115]
def wImplements : Bs := [105, 109, 112, 108, 101, 109, 101, 110, 116, 115]
def wField : Bs := [102, 105, 101, 108, 100]
def wStatic : Bs := [115, 116, 97, 116, 105, 99]
def wMethod : Bs := [109, 101, 116, 104, 111, 100]
def wFunction : Bs := [102, 117, 110, 99, 116, 105, 111, 110]
def wLocals : Bs := [108, 111, 99, 97, 108, 115]
def wCatch : Bs := [99, 97, 116, 99, 104]
def wInt : Bs := [105, 110, 116]
def wVoid : Bs := [118, 111, 105, 100]
def wLB : Bs := [123]
def wRB : Bs := [125]
def wLP : Bs := [40]
def wRP : Bs := [41]
def wColon : Bs := [58]
def wSemi : Bs := [59]
def wComma : Bs := [44]
def wLK : Bs := [91]
def wRK : Bs := [93]
def keptWords : List Bs := [wClass, wInterface, wExtends, wImplements, wField, wStatic, wMethod, wFunction, wLocals, wCatch, wInt, wVoid]
def keptL (s : Bs) : Bool := keptWords.any (· == s)
def opWords : List Bs := [[110, 111, 112], [99, 111, 110, 115, 116], [110, 117, 108, 108], [108, 111, 97, 100], [115, 116, 111, 114, 101], [112, 111, 112], [100, 117, 112], [115, 119, 97, 112], [97, 100, 100], [115, 117, 98], [109, 117, 108], [100, 105, 118], [114, 101, 109], [110, 101, 103], [103, 111, 116, 111], [105, 102, 101, 113], [105, 102, 110, 101], [105, 102, 108, 116], [105, 102, 103, 101], [99, 109, 112, 101, 113], [99, 109, 112, 110, 101], [99, 109, 112, 108, 116], [99, 109, 112, 103, 101], [105, 102, 110, 117, 108, 108], [105, 102, 114, 101, 102], [115, 97, 109, 101], [111, 116, 104, 101, 114], [110, 101, 119], [103, 101, 116], [112, 117, 116], [103, 101, 116, 115], [112, 117, 116, 115], [105, 110, 116, 115], [114, 101, 102, 115], [108, 101, 110], [97, 116], [115, 101, 116], [105, 115], [99, 97, 115, 116], [99, 97, 108, 108], [102, 117, 110, 99], [114, 101, 116], [108, 101, 97, 118, 101], [116, 104, 114, 111, 119]]
def opL (s : Bs) : Option Nat := opWords.findIdx? (· == s)
def isW (t : Bs) (w : Wd) : Bool := w.text == t
def isW2 (t u : Bs) (w : Wd) : Bool := w.text == t || w.text == u
def isFresh (w : Wd) : Bool := w.kind == 1 && !keptL w.text
def isNum (lo hi : Int) (w : Wd) : Bool := w.kind == 2 && (decide (lo <= w.num) && decide (w.num <= hi))
def isType (w : Wd) : Bool := isW2 wVoid wInt w || isFresh w
def isInstr (w : Wd) : Bool := (opL w.text).isSome
def want (t : Bs) : Pr Unit := .test (isW t) (fun _ => .ret ()) (.fail 4 (.ret ()))
def skip (t : Bs) : Pr Bool := .test (isW t) (fun _ => .ret true) (.ret false)
def first (a b : Bs) : Pr Bool := .test (isW a) (fun _ => .ret true) ((want b).bind fun _ => .ret false)
def fresh : Pr Bs := .test isFresh (fun w => .ret w.text) (.fail 4 (.ret []))
def number (lo hi : Int) : Pr Int := .test (isNum lo hi) (fun w => .ret w.num) (.fail 4 (.ret 0))
def rowOf (one row : Int) (n : Bs) : Pr Ty := .test (isW wLK) (fun _ => (want wRK).bind fun _ => .ret ⟨row, n⟩) (.ret ⟨one, n⟩)
def typed : Pr Ty := .test (isW wVoid) (fun _ => .ret ⟨1, []⟩) (.test (isW wInt) (fun _ => rowOf 2 4 []) (fresh.bind fun n => rowOf 3 5 n))
def listedGo {α : Type} (q : Wd -> Bool) (item : Pr α) : Nat -> List α -> Pr (List α)
 | 0, acc => .test (isW wComma) (fun _ => .peek q (.fail 2 (.ret [])) (.fail 4 (.ret []))) (.ret acc)
 | n + 1, acc => .test (isW wComma) (fun _ => .peek q (item.bind fun a => listedGo q item n (acc ++ [a])) (.fail 4 (.ret []))) (.ret acc)
def listed {α : Type} (q : Wd -> Bool) (item : Pr α) (most : Nat) : Pr (List α) := item.bind fun a => listedGo q item (most - 1) [a]
def many {α : Type} (q : Wd -> Bool) (item : Pr α) : Nat -> List α -> Pr (List α)
 | 0, acc => .peek q (.fail 2 (.ret acc)) (.ret acc)
 | n + 1, acc => .peek q (item.bind fun a => many q item n (acc ++ [a])) (.ret acc)
def field : Pr Fld := (first wStatic wField).bind fun st => fresh.bind fun n => (want wColon).bind fun _ => typed.bind fun t => (want wSemi).bind fun _ => .ret ⟨n, t, st⟩
def shape (op : Nat) : Nat := if op = 1 then 1 else if op = 3 \/ op = 4 then 2 else if 14 <= op /\ op <= 26 then 3 else if op = 27 \/ op = 33 \/ op = 37 \/ op = 38 then 4 else if (28 <= op /\ op <= 31) \/ op = 39 \/ op = 40 then 5 else 0
def args (op : Nat) : Pr (Int × Bs × Bs) :=
 if shape op = 1 then (number (-2147483648) 2147483647).bind fun n => .ret (n, [], [])
 else if shape op = 2 then (number 0 7).bind fun n => .ret (n, [], [])
 else if shape op = 3 then (number 0 47).bind fun n => .ret (n, [], [])
 else if shape op = 4 then fresh.bind fun a => .ret (0, a, [])
 else if shape op = 5 then fresh.bind fun a => fresh.bind fun b => .ret (0, a, b)
 else .ret (0, [], [])
def instrOf (op : Nat) : Pr Ins := (args op).bind fun x => (want wSemi).bind fun _ => .ret ⟨op, x.1, x.2.1, x.2.2⟩
def instr : Pr Ins := .test isInstr (fun w => instrOf ((opL w.text).getD 0)) (.ret ⟨0, 0, [], []⟩)
def catch_ : Pr Ctc := (want wCatch).bind fun _ => fresh.bind fun n => (number 0 48).bind fun a => (number 0 48).bind fun b => (number 0 48).bind fun c => (want wSemi).bind fun _ => .ret ⟨n, a, b, c⟩
def body : Pr (Int × List Ins × List Ctc) := (want wLocals).bind fun _ => (number 0 8).bind fun n => (want wLB).bind fun _ => (many isInstr instr 48 []).bind fun c => (many (isW wCatch) catch_ 4 []).bind fun k => (want wRB).bind fun _ => .ret (n, c, k)
def params : Pr (List Ty) := .peek (isW wRP) (.ret []) (listed isType typed 4)
def bodyOr (ab : Bool) : Pr (Int × List Ins × List Ctc) := if ab = true then .ret (0, [], []) else body
def method : Pr Mth := (first wFunction wMethod).bind fun st => fresh.bind fun n => (want wLP).bind fun _ => params.bind fun ps => (want wRP).bind fun _ => typed.bind fun rt => (skip wSemi).bind fun ab =>
 (bodyOr ab).bind fun x => .ret ⟨n, st, ab, ps, rt, x.1, x.2.1, x.2.2⟩
def members : Nat -> List Fld -> List Mth -> Pr (List Fld × List Mth)
 | 0, fs, ms => .peek (isW2 wField wStatic) (.fail 2 (.ret (fs, ms))) (.peek (isW2 wMethod wFunction) (.fail 2 (.ret (fs, ms))) (.ret (fs, ms)))
 | n + 1, fs, ms => .peek (isW2 wField wStatic) (if 6 <= fs.length then .fail 2 (.ret (fs, ms)) else field.bind fun f => members n (fs ++ [f]) ms)
     (.peek (isW2 wMethod wFunction) (if 6 <= ms.length then .fail 2 (.ret (fs, ms)) else method.bind fun m => members n fs (ms ++ [m])) (.ret (fs, ms)))
def superOr (ifc : Bool) : Pr Bs := if ifc = true then .ret [] else .test (isW wExtends) (fun _ => fresh) (.ret [])
def ifacesOf (t : Bs) : Pr (List Bs) := .test (isW t) (fun _ => listed isFresh fresh 4) (.ret [])
def cls : Pr Cls := (first wInterface wClass).bind fun ifc => fresh.bind fun n => (superOr ifc).bind fun sup => (ifacesOf (if ifc = true then wExtends else wImplements)).bind fun ifs =>
 (want wLB).bind fun _ => (members 12 [] []).bind fun m => (want wRB).bind fun _ => .ret ⟨n, ifc, sup, ifs, m.1, m.2⟩
def classes : Pr (List Cls) := many (isW2 wClass wInterface) cls 10 []
def progP : Pr (List Cls) := classes.bind fun cs => .peek (fun _ => true) (.fail 4 (.ret cs)) (.ret cs)
def place (tk : List Lx.Tok) (pl : Nat) (i : Nat) : Nat := match tk[i]? with
 | some t => t.pos
 | none => pl
def program (bs : List UInt8) : List Cls × Nat × Int :=
 let sc := Lx.scanL bs
 let r := progP.run (sc.1.map wd) ⟨0, (sc.2.2 : Int)⟩
 if r.2.e = 0 then (r.1, 0, 0) else ([], place sc.1 (if sc.2.2 = 0 then bs.length else sc.2.1) r.2.i, r.2.e)
theorem run_fail {α : Type} (C : List Wd) (k : Int) (p : Pr α) (s : St) : (Pr.fail k p).run C s = p.run C (failS s k) := rfl
end Pp
open Go.RowKit
theorem ret_bool {a b : Bool} (h : a = true ↔ b = true) : Ending.returned (.bool a) = .returned (.bool b) := by rw [Bool.eq_iff_iff.2 h]
theorem isDigit_any (c : Int) (w : World) :
 Calls Tryz.prog 120 #[.int .u8 c] w fun e w' => e = .returned (.bool (Lx.digI c)) /\ w' = w := by
 go_enter Tryz.func120, Tryz.ntmps120; go_wp2
 all_goals (go_ret; exact ⟨ret_bool (by simp [Lx.digI]; omega), rfl⟩)
theorem inWord_any (c : Int) (w : World) :
 Calls Tryz.prog 121 #[.int .u8 c] w fun e w' => e = .returned (.bool (Lx.inwI c)) /\ w' = w := by
 go_enter Tryz.func121, Tryz.ntmps121; go_wp2
 all_goals (go_ret; exact ⟨ret_bool (by simp [Lx.inwI]; try omega), rfl⟩)
theorem Name_any (s : ByteArray) (hs : s.size <= maxLen) (w : World) :
 Calls Tryz.prog 101 #[.string s] w fun e w' => e = .returned (.bool (Lx.nameL s.data.toList)) /\ w' = w := by
 unfold maxLen at hs; by_cases h1 : s.size < 1
 · have Hf := Lx.nameL_short s h1
   rw [Hf]; clear Hf; go_enter Tryz.func101, Tryz.ntmps101; go_wp2; go_ret; exact ⟨rfl, rfl⟩
 by_cases h20 : 20 < s.size
 · have Hf := Lx.nameL_long s h20
   rw [Hf]; clear Hf; go_enter Tryz.func101, Tryz.ntmps101; go_wp2; go_ret; exact ⟨rfl, rfl⟩
 have Hf := Lx.nameL_mid s (by omega) (by omega)
 rw [Hf]; clear Hf; have h1' : 0 < s.size := by omega
 obtain ⟨R, hR⟩ : ∃ R : Bool, R = (!Lx.dig s[0] && s.data.toList.all Lx.inw) := ⟨_, rfl⟩; rw [<- hR]; have HR : Hid (R = (!Lx.dig s[0] && s.data.toList.all Lx.inw)) := hR; clear hR; cases hd : Lx.dig s[0] with
 | true =>
   have hd' : Lx.digI (s[0].toNat : Int) = true := hd; have HF : Hid (R = false) := by show _ = _; rw [HR.out, hd]; rfl
   clear hd; go_enter Tryz.func101, Tryz.ntmps101
   go_wp2_with (go_at_call 120; refine (isDigit_any _ _).mono ?_; rintro e w' ⟨rfl, rfl⟩)
   go_ret; exact ⟨ret_bool (by rw [HF.out]), rfl⟩
 | false =>
   have hd' : Lx.digI (s[0].toNat : Int) = false := hd; have HF : Hid (R = s.data.toList.all Lx.inw) := by show _ = _; rw [HR.out, hd]; rfl
   clear hd; go_enter Tryz.func101, Tryz.ntmps101
   go_wp2_with (go_at_call 120; refine (isDigit_any _ _).mono ?_; rintro e w' ⟨rfl, rfl⟩)
   go_loop [19] (fun i => ∃ k : Nat, k <= s.size /\ i = .int .i64 k /\ (s.data.toList.take k).all Lx.inw = true) (fun i => s.size - (intOf i).toNat)
   case atStart => exact ⟨0, Nat.zero_le _, rfl, rfl⟩
   case round =>
    obtain ⟨k, hk, rfl, hall⟩ := hrel; have Hall := hall; clear hall; by_cases hlt : k < s.size
    · have hts := Lx.take_snoc s k hlt
      have HT : Hid ((s.data.toList.take (k + 1)).all Lx.inw = ((s.data.toList.take k).all Lx.inw && Lx.inw s[k])) := by rw [hts]; exact Lx.all_snoc _ _ _
      clear hts; have HA : Hid ((s.data.toList.take k).all Lx.inw = true) := Hall; clear Hall; cases hw : Lx.inw s[k] with
      | true =>
        have hw' : Lx.inwI (s[k].toNat : Int) = true := hw; have HW : Hid (Lx.inw s[k] = true) := hw; clear hw
        go_wp2_with (go_at_call 121; refine (inWord_any _ _).mono ?_; rintro e w' ⟨rfl, rfl⟩)
        go_round
        case rel => exact ⟨k + 1, by omega, by go_num, by rw [HT.out, HA.out, HW.out]; rfl⟩
        case measure => simp [intOf]; omega
      | false =>
        have hw' : Lx.inwI (s[k].toNat : Int) = false := hw
        have HN : Hid (s.data.toList.all Lx.inw = false) := by
         show _ = _; rw [Bool.eq_false_iff]; intro h; have := List.all_eq_true.1 h s[k] (by simp [ByteArray.getElem_eq_getElem_data])
         rw [hw] at this; cases this
        clear hw
        go_wp2_with (go_at_call 121; refine (inWord_any _ _).mono ?_; rintro e w' ⟨rfl, rfl⟩)
        go_ret; exact ⟨ret_bool (by rw [HF.out, HN.out]), rfl⟩
    · have HN : Hid (s.data.toList.all Lx.inw = true) := by
       show _ = _; rw [<- Hall, List.take_of_length_le (by simp; omega)]
      clear Hall; go_wp2; go_ret; exact ⟨ret_bool (by rw [HF.out, HN.out]), rfl⟩
def strV (l : List UInt8) : Value := .string ⟨l.toArray⟩
structure TabS (w : World) : Prop where
 words : ∀ i t, Pp.opWords[i]? = some t -> w.cell? ⟨1, i, none⟩ = some (strV t)
 kept : ∀ i t, Pp.keptWords[i]? = some t -> w.cell? ⟨0, i, none⟩ = some (strV t)
theorem TabS.below {w w' : World} (h : TabS w) (hb : Below w.heap.size w w') : TabS w' :=
 ⟨fun i t ht => (hb.cell (World.block_lt_of_cell? w _ (h.words i t ht))).trans (h.words i t ht), fun i t ht => (hb.cell (World.block_lt_of_cell? w _ (h.kept i t ht))).trans (h.kept i t ht)⟩
theorem hide {p : Prop} (h : p) : Hid p := h
namespace Pp
theorem any_step (K : List Bs) (s t : Bs) (k : Nat) (hk : k < K.length) (ht : t = K.getD k []) (hs : ¬ t = s) (h : (K.take k).any (· == s) = false) : (K.take (k + 1)).any (· == s) = false := by
 have e : K[k] = t := by rw [ht]; simp [List.getD, hk]
 rw [List.take_succ_eq_append_getElem hk, List.any_append, h, e]; simp [hs]
theorem any_at (K : List Bs) (s t : Bs) (k : Nat) (hk : k < K.length) (ht : t = K.getD k []) (hs : t = s) : K.any (· == s) = true := by
 rw [List.any_eq_true]; exact ⟨K[k], List.getElem_mem hk, by rw [<- hs, ht]; simp [List.getD, hk]⟩
theorem any_end (K : List Bs) (s : Bs) (k : Nat) (hk : ¬ k < K.length) (h : (K.take k).any (· == s) = false) : K.any (· == s) = false := by
 rw [List.take_of_length_le (by omega)] at h; exact h
theorem find_end (K : List Bs) (s : Bs) (k : Nat) (hk : ¬ k < K.length) (h : (K.take k).any (· == s) = false) : K.findIdx? (· == s) = none := by
 rw [List.take_of_length_le (by omega)] at h
 rw [List.findIdx?_eq_none_iff]; intro x hx; rw [List.any_eq_false] at h; exact by simpa using h x hx
end Pp
theorem index_str (w : World) (A : Array Value) (t : TypeId) (n k : Nat) (l : List UInt8) (ht : Tryz.prog.underlying t = some (.array n 9)) (hk : k < n) (hA : A[k]? = some (.string ⟨l.toArray⟩)) :
 (Instr.index t (.agg A) (.int .i64 (k : Int))).run Tryz.prog w = .ok (.string ⟨l.toArray⟩) w := by
 have h1 : (0 : Int) <= (k : Int) /\ (k : Int) < (n : Int) := by omega
 simp [Instr.index, run_underlying ht, asIntOf, h1, go_sem]; rw [if_pos hk, hA]
 rfl
theorem Kept_any (s : List UInt8) (w : World) (ht : TabS w) :
 Calls Tryz.prog 102 #[.string ⟨s.toArray⟩] w fun e w' => e = .returned (.bool (Pp.keptL s)) /\ w' = w := by
 have h0 := ht.kept 0 _ rfl; have h1 := ht.kept 1 _ rfl; have h2 := ht.kept 2 _ rfl; have h3 := ht.kept 3 _ rfl; have h4 := ht.kept 4 _ rfl; have h5 := ht.kept 5 _ rfl; have h6 := ht.kept 6 _ rfl; have h7 := ht.kept 7 _ rfl; have h8 := ht.kept 8 _ rfl; have h9 := ht.kept 9 _ rfl; have h10 := ht.kept 10 _ rfl; have h11 := ht.kept 11 _ rfl; clear ht; unfold strV at *
 go_enter Tryz.func102, Tryz.ntmps102; go_wp2; clear h0 h1 h2 h3 h4 h5 h6 h7 h8 h9 h10 h11; obtain ⟨K, hK⟩ : ∃ K, K = Pp.keptWords := ⟨_, rfl⟩; have hL : Hid (K.length = 12) := by rw [hK]; exact hide rfl
 have hg : Hid (Pp.keptL s = K.any (· == s)) := by rw [hK]; rfl
 generalize hA : (#[_, _, _, _, _, _, _, _, _, _, _, _] : Array Value) = A; have hAK : A = (K.map fun t => Value.string ⟨t.toArray⟩).toArray := by rw [<- hA, hK]; rfl
 clear hA hK
 have hAt : ∀ k, k < 12 -> A[k]? = some (.string ⟨(K.getD k []).toArray⟩) := by
  intro k hk; rw [hAK]; simp [List.getD, show k < K.length by have := hL.out; omega]
 clear hAK
 go_loop [6] (fun i => ∃ k : Nat, k <= 12 /\ i = .int .i64 k /\ Hid ((K.take k).any (· == s) = false)) (fun i => 12 - (intOf i).toNat)
 case atStart => exact ⟨0, by omega, rfl, rfl⟩
 case round =>
  obtain ⟨k, hk, rfl, hp⟩ := hrel; by_cases hlt : k < 12
  · have hix := index_str w A 168 12 k _ Tryz.underlying168 hlt (hAt k hlt)
    clear hAt; obtain ⟨t, htt⟩ : ∃ t, t = K.getD k [] := ⟨_, rfl⟩; rw [<- htt] at hix; have HT := hide htt; clear htt; by_cases hts : t = s
    · have hr := hide (hg.out.trans (Pp.any_at K s t k (by rw [hL.out]; exact hlt) HT.out hts))
      subst hts; go_wp2; go_ret; rw [hr.out]; exact ⟨rfl, rfl⟩
    · have hr := hide (Pp.any_step K s t k (by rw [hL.out]; exact hlt) HT.out hts hp.out)
      have hne : (t == s) = false := by simp [hts]
      go_wp2
      go_round
      case rel => exact ⟨k + 1, by omega, by go_num, hr⟩
      case measure => simp [intOf]; omega
  · have hr := hide (hg.out.trans (Pp.any_end K s k (by rw [hL.out]; exact hlt) hp.out))
    clear hAt; go_wp2; go_ret; rw [hr.out]; exact ⟨rfl, rfl⟩
theorem Word_in (k : Nat) (hk : k < 44) (w : World) (ht : TabS w) :
 Calls Tryz.prog 139 #[.int .i64 (k : Int)] w fun e w' => e = .returned (.string ⟨(Pp.opWords.getD k []).toArray⟩) /\ w' = w := by
 obtain ⟨t, htt⟩ : ∃ t, t = Pp.opWords.getD k [] := ⟨_, rfl⟩
 have hc := ht.words k t (by
  have hl : k < Pp.opWords.length := hk
  rw [htt, List.getElem?_eq_getElem hl]; simp [List.getD, hl])
 unfold strV at hc; rw [<- htt]; clear htt ht; go_enter Tryz.func139, Tryz.ntmps139; go_wp2; go_ret; exact ⟨rfl, rfl⟩
theorem Word_out (k : Int) (hk : k < 0 \/ 44 <= k) (w : World) :
 Calls Tryz.prog 139 #[.int .i64 k] w fun e w' => e = .returned (.string ⟨#[]⟩) /\ w' = w := by
 go_enter Tryz.func139, Tryz.ntmps139
 rcases hk with hk | hk
 all_goals (go_wp2; go_ret; exact ⟨rfl, rfl⟩)
end Go.Proofs.YtbbbnciejmdpfabGreatDoor

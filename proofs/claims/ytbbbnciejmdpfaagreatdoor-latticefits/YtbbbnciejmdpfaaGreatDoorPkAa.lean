/- What the laws of this seat lean on: 11 texts. -/
import Derived.Test.YtbbbnciejmdpfaaGreatDoorRows
import Derived.WalkKit
import Derived.WalkSpells
import Derived.WalkLawsBesides
import Derived.BigQuiet
import Derived.Deep.QuietTactic
import Derived.Lib.ItoaNum
import Derived.Maps.AppendAt
import Derived.WideShapes
import Derived.Deep.RegionWith
import Derived.Deep.RegionLaw
set_option maxRecDepth 100000
set_option maxHeartbeats 64000000
set_option linter.unusedVariables false
set_option linter.unusedSimpArgs false
namespace Go.Proofs.YtbbbnciejmdpfaaGreatDoor
namespace Lx
def digI (c : Int) : Bool := decide (48 <= c /\ c <= 57)
def inwI (c : Int) : Bool := decide ((97 <= c /\ c <= 122) \/ (65 <= c /\ c <= 90) \/ (48 <= c /\ c <= 57) \/ c = 95)
def blkI (c : Int) : Bool := decide (c = 32 \/ c = 9 \/ c = 10 \/ c = 13)
def sgnI (c : Int) : Bool := decide (c = 123 \/ c = 125 \/ c = 40 \/ c = 41 \/ c = 58 \/ c = 59 \/ c = 44 \/ c = 91 \/ c = 93)
def dig (u : UInt8) : Bool := digI (u.toNat : Int)
def inw (u : UInt8) : Bool := inwI (u.toNat : Int)
def blk (u : UInt8) : Bool := blkI (u.toNat : Int)
def sgn (u : UInt8) : Bool := sgnI (u.toNat : Int)
def nameL : List UInt8 -> Bool
 | [] => false
 | c :: r => decide (r.length < 20) && !dig c && (c :: r).all inw
theorem take_snoc (s : ByteArray) (k : Nat) (h : k < s.size) : s.data.toList.take (k + 1) = s.data.toList.take k ++ [s[k]] := by
 rw [List.take_succ_eq_append_getElem (by simpa using h)]; rfl
theorem toList_len (s : ByteArray) : s.data.toList.length = s.size := by simp
theorem nameL_short (s : ByteArray) (h : s.size < 1) : nameL s.data.toList = false := by
 have hl := toList_len s; cases e : s.data.toList with
 | nil => rfl
 | cons c r => rw [e] at hl; simp at hl; omega
theorem nameL_long (s : ByteArray) (h : 20 < s.size) : nameL s.data.toList = false := by
 have hl := toList_len s; cases e : s.data.toList with
 | nil => rfl
 | cons c r => rw [e] at hl; simp at hl; simp [nameL]; intro h2; omega
theorem nameL_mid (s : ByteArray) (h : 1 <= s.size) (h20 : s.size <= 20) : nameL s.data.toList = (!dig s[0] && s.data.toList.all inw) := by
 have hl := toList_len s
 have h0 : s.data.toList[0]? = some s[0] := by
  rw [List.getElem?_eq_getElem (by omega)]; rfl
 cases e : s.data.toList with
 | nil => rw [e] at hl; simp at hl; omega
 | cons c r =>
   rw [e] at hl h0; simp at hl h0; subst h0; simp only [nameL]; rw [show decide (r.length < 20) = true from by simp; omega]; simp
theorem all_snoc (l : List UInt8) (c : UInt8) (p : UInt8 -> Bool) : (l ++ [c]).all p = (l.all p && p c) := by simp
def signL : List UInt8 -> Bool
 | [c] => sgn c
 | _ => false
def sizeGo : List UInt8 -> Nat -> Option Nat
 | [], n => some n
 | c :: r, n => if dig c = true then (if 2147483648 < n * 10 + (c.toNat - 48) then none else sizeGo r (n * 10 + (c.toNat - 48))) else none
def sizeL : List UInt8 -> Option Nat
 | [] => none
 | c :: r => if c.toNat = 48 /\ r ≠ [] then none else sizeGo (c :: r) 0
def negOf : Option Nat -> Option Int
 | some n => if n = 0 then none else some (-(n : Int))
 | none => none
def posOf : Option Nat -> Option Int
 | some n => if 2147483647 < n then none else some (n : Int)
 | none => none
def numL : List UInt8 -> Option Int
 | [] => none
 | c :: r => if c.toNat = 45 then negOf (sizeL r) else posOf (sizeL (c :: r))
end Lx
namespace Lx
def runLen (l : List UInt8) : Nat := (l.takeWhile inw).length
def wordLen : List UInt8 -> Nat
 | [] => 0
 | c :: r => if sgn c = true then 1 else if c.toNat = 45 then 1 + runLen r else runLen (c :: r)
end Lx
namespace Lx
structure Tok where
 kind : Int
 text : List UInt8
 num : Int
 pos : Nat
def tokOf (l : List UInt8) (p : Nat) : Option Tok :=
 if nameL l = true then some ⟨1, l, 0, p⟩ else
  match numL l with
  | some n => some ⟨2, [], n, p⟩
  | none => if signL l = true then some ⟨3, l, 0, p⟩ else none
def wordOf (l : List UInt8) : List UInt8 := l.take (wordLen l)
def scanGo : Nat -> List UInt8 -> Nat -> List Tok -> List Tok × Nat × Nat
 | 0, _, _, acc => (acc, 0, 0)
 | _ + 1, [], _, acc => (acc, 0, 0)
 | f + 1, c :: r, p, acc =>
   if blk c = true then scanGo f r (p + 1) acc else
    match tokOf (wordOf (c :: r)) p with
    | none => ([], p, 3)
    | some t => scanGo f ((c :: r).drop (wordLen (c :: r))) (p + wordLen (c :: r)) (acc ++ [t])
def scanL (bs : List UInt8) : List Tok × Nat × Nat := if 6000 < bs.length then ([], 0, 2) else scanGo bs.length bs 0 []
end Lx
namespace Pp
abbrev Bs := List UInt8
structure Wd where
 kind : Int
 text : Bs
 num : Int
def wd (t : Lx.Tok) : Wd := ⟨t.kind, t.text, t.num⟩
structure St where
 i : Nat
 e : Int
def cur (C : List Wd) (s : St) : Option Wd := if s.e = 0 then C[s.i]? else none
def has (C : List Wd) (s : St) (q : Wd -> Bool) : Bool := match cur C s with
 | some t => q t
 | none => false
def Pr (α : Type) : Type := List Wd -> St -> α × St
structure Ty where
 kind : Int
 name : Bs
structure Fld where
 name : Bs
 ty : Ty
 stat : Bool
structure Ins where
 op : Nat
 n : Int
 a : Bs
 b : Bs
structure Ctc where
 name : Bs
 lo : Int
 hi : Int
 pc : Int
structure Mth where
 name : Bs
 stat : Bool
 abst : Bool
 params : List Ty
 ret : Ty
 locals : Int
 code : List Ins
 catches : List Ctc
structure Cls where
 name : Bs
 iface : Bool
 super : Bs
 ifaces : List Bs
 fields : List Fld
 methods : List Mth
def wClass : Bs := [99, 108, 97, 115, 115]
def wInterface : Bs := [105, 110, 116, 101, 114, 102, 97, 99, 101]
def wExtends : Bs := [101, 120, 116, 101, 110, 100, 115]
def wImplements : Bs := [105, 109, 112, 108, 101, 109, 101, 110, 116, 115]
def wField : Bs := [102, 105, 101, 108, 100]
def wStatic : Bs := [115, 116, 97, 116, 105, 99]
def wMethod : Bs := [109, 101, 116, 104, 111, 100]
def wFunction : Bs := [102, 117, 110, 99, 116, 105, 111, 110]
def wLocals : Bs := [108, 111, 99, 97, 108, 115]
def wCatch : Bs := [99, 97, 116, 99, 104]
def wInt : Bs := [105, 110, 116]
def wVoid : Bs := [118, 111, 105, 100]
def wLB : Bs := [123]
def wRB : Bs := [125]
def wLP : Bs := [40]
def wRP : Bs := [41]
def wColon : Bs := [58]
def wSemi : Bs := [59]
def wComma : Bs := [44]
def wLK : Bs := [91]
def wRK : Bs := [93]
def keptWords : List Bs := [wClass, wInterface, wExtends, wImplements, wField, wStatic, wMethod, wFunction, wLocals, wCatch, wInt, wVoid]
def keptL (s : Bs) : Bool := keptWords.any (· == s)
def opWords : List Bs := [[110, 111, 112], [99, 111, 110, 115, 116], [110, 117, 108, 108], [108, 111, 97, 100], [115, 116, 111, 114, 101], [112, 111, 112], [100, 117, 112], [115, 119, 97, 112], [97, 100, 100], [115, 117, 98], [109, 117, 108], [100, 105, 118], [114, 101, 109], [110, 101, 103], [103, 111, 116, 111], [105, 102, 101, 113], [105, 102, 110, 101], [105, 102, 108, 116], [105, 102, 103, 101], [99, 109, 112, 101, 113], [99, 109, 112, 110, 101], [99, 109, 112, 108, 116], [99, 109, 112, 103, 101], [105, 102, 110, 117, 108, 108], [105, 102, 114, 101, 102], [115, 97, 109, 101], [111, 116, 104, 101, 114], [110, 101, 119], [103, 101, 116], [112, 117, 116], [103, 101, 116, 115], [112, 117, 116, 115], [105, 110, 116, 115], [114, 101, 102, 115], [108, 101, 110], [97, 116], [115, 101, 116], [105, 115], [99, 97, 115, 116], [99, 97, 108, 108], [102, 117, 110, 99], [114, 101, 116], [108, 101, 97, 118, 101], [116, 104, 114, 111, 119]]
def opL (s : Bs) : Option Nat := opWords.findIdx? (· == s)
def isW (t : Bs) (w : Wd) : Bool := w.text == t
def isW2 (t u : Bs) (w : Wd) : Bool := w.text == t || w.text == u
def isFresh (w : Wd) : Bool := w.kind == 1 && !keptL w.text
def isNum (lo hi : Int) (w : Wd) : Bool := w.kind == 2 && (decide (lo <= w.num) && decide (w.num <= hi))
def isType (w : Wd) : Bool := isW2 wVoid wInt w || isFresh w
def isInstr (w : Wd) : Bool := (opL w.text).isSome
def want (t : Bs) : Pr Unit := .test (isW t) (fun _ => .ret ()) (.fail 4 (.ret ()))
def skip (t : Bs) : Pr Bool := .test (isW t) (fun _ => .ret true) (.ret false)
def first (a b : Bs) : Pr Bool := .test (isW a) (fun _ => .ret true) ((want b).bind fun _ => .ret false)
def fresh : Pr Bs := .test isFresh (fun w => .ret w.text) (.fail 4 (.ret []))
def number (lo hi : Int) : Pr Int := .test (isNum lo hi) (fun w => .ret w.num) (.fail 4 (.ret 0))
def rowOf (one row : Int) (n : Bs) : Pr Ty := .test (isW wLK) (fun _ => (want wRK).bind fun _ => .ret ⟨row, n⟩) (.ret ⟨one, n⟩)
def typed : Pr Ty := .test (isW wVoid) (fun _ => .ret ⟨1, []⟩) (.test (isW wInt) (fun _ => rowOf 2 4 []) (fresh.bind fun n => rowOf 3 5 n))
def listedGo {α : Type} (q : Wd -> Bool) (item : Pr α) : Nat -> List α -> Pr (List α)
 | 0, acc => .test (isW wComma) (fun _ => .peek q (.fail 2 (.ret [])) (.fail 4 (.ret []))) (.ret acc)
 | n + 1, acc => .test (isW wComma) (fun _ => .peek q (item.bind fun a => listedGo q item n (acc ++ [a])) (.fail 4 (.ret []))) (.ret acc)
def listed {α : Type} (q : Wd -> Bool) (item : Pr α) (most : Nat) : Pr (List α) := item.bind fun a => listedGo q item (most - 1) [a]
def many {α : Type} (q : Wd -> Bool) (item : Pr α) : Nat -> List α -> Pr (List α)
 | 0, acc => .peek q (.fail 2 (.ret acc)) (.ret acc)
 | n + 1, acc => .peek q (item.bind fun a => many q item n (acc ++ [a])) (.ret acc)
def field : Pr Fld := (first wStatic wField).bind fun st => fresh.bind fun n => (want wColon).bind fun _ => typed.bind fun t => (want wSemi).bind fun _ => .ret ⟨n, t, st⟩
def shape (op : Nat) : Nat := if op = 1 then 1 else if op = 3 \/ op = 4 then 2 else if 14 <= op /\ op <= 26 then 3 else if op = 27 \/ op = 33 \/ op = 37 \/ op = 38 then 4 else if (28 <= op /\ op <= 31) \/ op = 39 \/ op = 40 then 5 else 0
def args (op : Nat) : Pr (Int × Bs × Bs) :=
 if shape op = 1 then (number (-2147483648) 2147483647).bind fun n => .ret (n, [], [])
 else if shape op = 2 then (number 0 7).bind fun n => .ret (n, [], [])
 else if shape op = 3 then (number 0 47).bind fun n => .ret (n, [], [])
 else if shape op = 4 then fresh.bind fun a => .ret (0, a, [])
 else if shape op = 5 then fresh.bind fun a => fresh.bind fun b => .ret (0, a, b)
 else .ret (0, [], [])
def instrOf (op : Nat) : Pr Ins := (args op).bind fun x => (want wSemi).bind fun _ => .ret ⟨op, x.1, x.2.1, x.2.2⟩
def instr : Pr Ins := .test isInstr (fun w => instrOf ((opL w.text).getD 0)) (.ret ⟨0, 0, [], []⟩)
def catch_ : Pr Ctc := (want wCatch).bind fun _ => fresh.bind fun n => (number 0 48).bind fun a => (number 0 48).bind fun b => (number 0 48).bind fun c => (want wSemi).bind fun _ => .ret ⟨n, a, b, c⟩
def body : Pr (Int × List Ins × List Ctc) := (want wLocals).bind fun _ => (number 0 8).bind fun n => (want wLB).bind fun _ => (many isInstr instr 48 []).bind fun c => (many (isW wCatch) catch_ 4 []).bind fun k => (want wRB).bind fun _ => .ret (n, c, k)
def params : Pr (List Ty) := .peek (isW wRP) (.ret []) (listed isType typed 4)
def bodyOr (ab : Bool) : Pr (Int × List Ins × List Ctc) := if ab = true then .ret (0, [], []) else body
def method : Pr Mth := (first wFunction wMethod).bind fun st => fresh.bind fun n => (want wLP).bind fun _ => params.bind fun ps => (want wRP).bind fun _ => typed.bind fun rt => (skip wSemi).bind fun ab =>
 (bodyOr ab).bind fun x => .ret ⟨n, st, ab, ps, rt, x.1, x.2.1, x.2.2⟩
def members : Nat -> List Fld -> List Mth -> Pr (List Fld × List Mth)
 | 0, fs, ms => .peek (isW2 wField wStatic) (.fail 2 (.ret (fs, ms))) (.peek (isW2 wMethod wFunction) (.fail 2 (.ret (fs, ms))) (.ret (fs, ms)))
 | n + 1, fs, ms => .peek (isW2 wField wStatic) (if 6 <= fs.length then .fail 2 (.ret (fs, ms)) else field.bind fun f => members n (fs ++ [f]) ms)
     (.peek (isW2 wMethod wFunction) (if 6 <= ms.length then .fail 2 (.ret (fs, ms)) else method.bind fun m => members n fs (ms ++ [m])) (.ret (fs, ms)))
def superOr (ifc : Bool) : Pr Bs := if ifc = true then .ret [] else .test (isW wExtends) (fun _ => fresh) (.ret [])
def ifacesOf (t : Bs) : Pr (List Bs) := .test (isW t) (fun _ => listed isFresh fresh 4) (.ret [])
def cls : Pr Cls := (first wInterface wClass).bind fun ifc => fresh.bind fun n => (superOr ifc).bind fun sup => (ifacesOf (if ifc = true then wExtends else wImplements)).bind fun ifs =>
 (want wLB).bind fun _ => (members 12 [] []).bind fun m => (want wRB).bind fun _ => .ret ⟨n, ifc, sup, ifs, m.1, m.2⟩
def classes : Pr (List Cls) := many (isW2 wClass wInterface) cls 10 []
def progP : Pr (List Cls) := classes.bind fun cs => .peek (fun _ => true) (.fail 4 (.ret cs)) (.ret cs)
def place (tk : List Lx.Tok) (pl : Nat) (i : Nat) : Nat := match tk[i]? with
 | some t => t.pos
 | none => pl
def program (bs : List UInt8) : List Cls × Nat × Int :=
 let sc := Lx.scanL bs
 let r := progP.run (sc.1.map wd) ⟨0, (sc.2.2 : Int)⟩
 if r.2.e = 0 then (r.1, 0, 0) else ([], place sc.1 (if sc.2.2 = 0 then bs.length else sc.2.1) r.2.i, r.2.e)
end Pp
open Go.RowKit
theorem ret_bool {a b : Bool} (h : a = true ↔ b = true) : Ending.returned (.bool a) = .returned (.bool b) := by rw [Bool.eq_iff_iff.2 h]
theorem isDigit_any (c : Int) (w : World) :
 Calls Tryz.prog 130 #[.int .u8 c] w fun e w' => e = .returned (.bool (Lx.digI c)) /\ w' = w := by
 go_enter Tryz.func130, Tryz.ntmps130; go_wp2
 all_goals (go_ret; exact ⟨ret_bool (by simp [Lx.digI]; omega), rfl⟩)
theorem inWord_any (c : Int) (w : World) :
 Calls Tryz.prog 131 #[.int .u8 c] w fun e w' => e = .returned (.bool (Lx.inwI c)) /\ w' = w := by
 go_enter Tryz.func131, Tryz.ntmps131; go_wp2
 all_goals (go_ret; exact ⟨ret_bool (by simp [Lx.inwI]; try omega), rfl⟩)
theorem Name_any (s : ByteArray) (hs : s.size <= maxLen) (w : World) :
 Calls Tryz.prog 111 #[.string s] w fun e w' => e = .returned (.bool (Lx.nameL s.data.toList)) /\ w' = w := by
 unfold maxLen at hs; by_cases h1 : s.size < 1
 · have Hf := Lx.nameL_short s h1
   rw [Hf]; clear Hf; go_enter Tryz.func111, Tryz.ntmps111; go_wp2; go_ret; exact ⟨rfl, rfl⟩
 by_cases h20 : 20 < s.size
 · have Hf := Lx.nameL_long s h20
   rw [Hf]; clear Hf; go_enter Tryz.func111, Tryz.ntmps111; go_wp2; go_ret; exact ⟨rfl, rfl⟩
 have Hf := Lx.nameL_mid s (by omega) (by omega)
 rw [Hf]; clear Hf; have h1' : 0 < s.size := by omega
 obtain ⟨R, hR⟩ : ∃ R : Bool, R = (!Lx.dig s[0] && s.data.toList.all Lx.inw) := ⟨_, rfl⟩; rw [<- hR]; have HR : Hid (R = (!Lx.dig s[0] && s.data.toList.all Lx.inw)) := hR; clear hR; cases hd : Lx.dig s[0] with
 | true =>
   have hd' : Lx.digI (s[0].toNat : Int) = true := hd; have HF : Hid (R = false) := by show _ = _; rw [HR.out, hd]; rfl
   clear hd; go_enter Tryz.func111, Tryz.ntmps111
   go_wp2_with (go_at_call 130; refine (isDigit_any _ _).mono ?_; rintro e w' ⟨rfl, rfl⟩)
   go_ret; exact ⟨ret_bool (by rw [HF.out]), rfl⟩
 | false =>
   have hd' : Lx.digI (s[0].toNat : Int) = false := hd; have HF : Hid (R = s.data.toList.all Lx.inw) := by show _ = _; rw [HR.out, hd]; rfl
   clear hd; go_enter Tryz.func111, Tryz.ntmps111
   go_wp2_with (go_at_call 130; refine (isDigit_any _ _).mono ?_; rintro e w' ⟨rfl, rfl⟩)
   go_loop [19] (fun i => ∃ k : Nat, k <= s.size /\ i = .int .i64 k /\ (s.data.toList.take k).all Lx.inw = true) (fun i => s.size - (intOf i).toNat)
   case atStart => exact ⟨0, Nat.zero_le _, rfl, rfl⟩
   case round =>
    obtain ⟨k, hk, rfl, hall⟩ := hrel; have Hall := hall; clear hall; by_cases hlt : k < s.size
    · have hts := Lx.take_snoc s k hlt
      have HT : Hid ((s.data.toList.take (k + 1)).all Lx.inw = ((s.data.toList.take k).all Lx.inw && Lx.inw s[k])) := by rw [hts]; exact Lx.all_snoc _ _ _
      clear hts; have HA : Hid ((s.data.toList.take k).all Lx.inw = true) := Hall; clear Hall; cases hw : Lx.inw s[k] with
      | true =>
        have hw' : Lx.inwI (s[k].toNat : Int) = true := hw; have HW : Hid (Lx.inw s[k] = true) := hw; clear hw
        go_wp2_with (go_at_call 131; refine (inWord_any _ _).mono ?_; rintro e w' ⟨rfl, rfl⟩)
        go_round
        case rel => exact ⟨k + 1, by omega, by go_num, by rw [HT.out, HA.out, HW.out]; rfl⟩
        case measure => simp [intOf]; omega
      | false =>
        have hw' : Lx.inwI (s[k].toNat : Int) = false := hw
        have HN : Hid (s.data.toList.all Lx.inw = false) := by
         show _ = _; rw [Bool.eq_false_iff]; intro h; have := List.all_eq_true.1 h s[k] (by simp [ByteArray.getElem_eq_getElem_data])
         rw [hw] at this; cases this
        clear hw
        go_wp2_with (go_at_call 131; refine (inWord_any _ _).mono ?_; rintro e w' ⟨rfl, rfl⟩)
        go_ret; exact ⟨ret_bool (by rw [HF.out, HN.out]), rfl⟩
    · have HN : Hid (s.data.toList.all Lx.inw = true) := by
       show _ = _; rw [<- Hall, List.take_of_length_le (by simp; omega)]
      clear Hall; go_wp2; go_ret; exact ⟨ret_bool (by rw [HF.out, HN.out]), rfl⟩
def strV (l : List UInt8) : Value := .string ⟨l.toArray⟩
structure TabS (w : World) : Prop where
 words : ∀ i t, Pp.opWords[i]? = some t -> w.cell? ⟨1, i, none⟩ = some (strV t)
 kept : ∀ i t, Pp.keptWords[i]? = some t -> w.cell? ⟨0, i, none⟩ = some (strV t)
theorem TabS.below {w w' : World} (h : TabS w) (hb : Below w.heap.size w w') : TabS w' :=
 ⟨fun i t ht => (hb.cell (World.block_lt_of_cell? w _ (h.words i t ht))).trans (h.words i t ht), fun i t ht => (hb.cell (World.block_lt_of_cell? w _ (h.kept i t ht))).trans (h.kept i t ht)⟩
theorem hide {p : Prop} (h : p) : Hid p := h
namespace Pp
theorem any_step (K : List Bs) (s t : Bs) (k : Nat) (hk : k < K.length) (ht : t = K.getD k []) (hs : ¬ t = s) (h : (K.take k).any (· == s) = false) : (K.take (k + 1)).any (· == s) = false := by
 have e : K[k] = t := by rw [ht]; simp [List.getD, hk]
 rw [List.take_succ_eq_append_getElem hk, List.any_append, h, e]; simp [hs]
theorem any_at (K : List Bs) (s t : Bs) (k : Nat) (hk : k < K.length) (ht : t = K.getD k []) (hs : t = s) : K.any (· == s) = true := by
 rw [List.any_eq_true]; exact ⟨K[k], List.getElem_mem hk, by rw [<- hs, ht]; simp [List.getD, hk]⟩
theorem any_end (K : List Bs) (s : Bs) (k : Nat) (hk : ¬ k < K.length) (h : (K.take k).any (· == s) = false) : K.any (· == s) = false := by
 rw [List.take_of_length_le (by omega)] at h; exact h
theorem find_end (K : List Bs) (s : Bs) (k : Nat) (hk : ¬ k < K.length) (h : (K.take k).any (· == s) = false) : K.findIdx? (· == s) = none := by
 rw [List.take_of_length_le (by omega)] at h
 rw [List.findIdx?_eq_none_iff]; intro x hx; rw [List.any_eq_false] at h; exact by simpa using h x hx
end Pp
theorem index_str (w : World) (A : Array Value) (t : TypeId) (n k : Nat) (l : List UInt8) (ht : Tryz.prog.underlying t = some (.array n 9)) (hk : k < n) (hA : A[k]? = some (.string ⟨l.toArray⟩)) :
 (Instr.index t (.agg A) (.int .i64 (k : Int))).run Tryz.prog w = .ok (.string ⟨l.toArray⟩) w := by
 have h1 : (0 : Int) <= (k : Int) /\ (k : Int) < (n : Int) := by omega
 simp [Instr.index, run_underlying ht, asIntOf, h1, go_sem]; rw [if_pos hk, hA]
 rfl
theorem Kept_any (s : List UInt8) (w : World) (ht : TabS w) :
 Calls Tryz.prog 112 #[.string ⟨s.toArray⟩] w fun e w' => e = .returned (.bool (Pp.keptL s)) /\ w' = w := by
 have h0 := ht.kept 0 _ rfl; have h1 := ht.kept 1 _ rfl; have h2 := ht.kept 2 _ rfl; have h3 := ht.kept 3 _ rfl; have h4 := ht.kept 4 _ rfl; have h5 := ht.kept 5 _ rfl; have h6 := ht.kept 6 _ rfl; have h7 := ht.kept 7 _ rfl; have h8 := ht.kept 8 _ rfl; have h9 := ht.kept 9 _ rfl; have h10 := ht.kept 10 _ rfl; have h11 := ht.kept 11 _ rfl; clear ht; unfold strV at *
 go_enter Tryz.func112, Tryz.ntmps112; go_wp2; clear h0 h1 h2 h3 h4 h5 h6 h7 h8 h9 h10 h11; obtain ⟨K, hK⟩ : ∃ K, K = Pp.keptWords := ⟨_, rfl⟩; have hL : Hid (K.length = 12) := by rw [hK]; exact hide rfl
 have hg : Hid (Pp.keptL s = K.any (· == s)) := by rw [hK]; rfl
 generalize hA : (#[_, _, _, _, _, _, _, _, _, _, _, _] : Array Value) = A; have hAK : A = (K.map fun t => Value.string ⟨t.toArray⟩).toArray := by rw [<- hA, hK]; rfl
 clear hA hK
 have hAt : ∀ k, k < 12 -> A[k]? = some (.string ⟨(K.getD k []).toArray⟩) := by
  intro k hk; rw [hAK]; simp [List.getD, show k < K.length by have := hL.out; omega]
 clear hAK
 go_loop [6] (fun i => ∃ k : Nat, k <= 12 /\ i = .int .i64 k /\ Hid ((K.take k).any (· == s) = false)) (fun i => 12 - (intOf i).toNat)
 case atStart => exact ⟨0, by omega, rfl, rfl⟩
 case round =>
  obtain ⟨k, hk, rfl, hp⟩ := hrel; by_cases hlt : k < 12
  · have hix := index_str w A 171 12 k _ Tryz.underlying171 hlt (hAt k hlt)
    clear hAt; obtain ⟨t, htt⟩ : ∃ t, t = K.getD k [] := ⟨_, rfl⟩; rw [<- htt] at hix; have HT := hide htt; clear htt; by_cases hts : t = s
    · have hr := hide (hg.out.trans (Pp.any_at K s t k (by rw [hL.out]; exact hlt) HT.out hts))
      subst hts; go_wp2; go_ret; rw [hr.out]; exact ⟨rfl, rfl⟩
    · have hr := hide (Pp.any_step K s t k (by rw [hL.out]; exact hlt) HT.out hts hp.out)
      have hne : (t == s) = false := by simp [hts]
      go_wp2
      go_round
      case rel => exact ⟨k + 1, by omega, by go_num, hr⟩
      case measure => simp [intOf]; omega
  · have hr := hide (hg.out.trans (Pp.any_end K s k (by rw [hL.out]; exact hlt) hp.out))
    clear hAt; go_wp2; go_ret; rw [hr.out]; exact ⟨rfl, rfl⟩
theorem Word_in (k : Nat) (hk : k < 44) (w : World) (ht : TabS w) :
 Calls Tryz.prog 149 #[.int .i64 (k : Int)] w fun e w' => e = .returned (.string ⟨(Pp.opWords.getD k []).toArray⟩) /\ w' = w := by
 obtain ⟨t, htt⟩ : ∃ t, t = Pp.opWords.getD k [] := ⟨_, rfl⟩
 have hc := ht.words k t (by
  have hl : k < Pp.opWords.length := hk
  rw [htt, List.getElem?_eq_getElem hl]; simp [List.getD, hl])
 unfold strV at hc; rw [<- htt]; clear htt ht; go_enter Tryz.func149, Tryz.ntmps149; go_wp2; go_ret; exact ⟨rfl, rfl⟩
theorem Word_out (k : Int) (hk : k < 0 \/ 44 <= k) (w : World) :
 Calls Tryz.prog 149 #[.int .i64 k] w fun e w' => e = .returned (.string ⟨#[]⟩) /\ w' = w := by
 go_enter Tryz.func149, Tryz.ntmps149
 rcases hk with hk | hk
 all_goals (go_wp2; go_ret; exact ⟨rfl, rfl⟩)
namespace Pp
structure Law {α : Type} (p : Pr α) : Prop where
 stuck : ∀ C s, s.e ≠ 0 -> (p.run C s).2 = s
 mono : ∀ C s, s.i <= (p.run C s).2.i
 loc : ∀ C C' s, (∀ j, s.i <= j -> j <= (p.run C s).2.i -> C'[j]? = C[j]?) -> p.run C' s = p.run C s
 shift : ∀ A B s, p.run (A ++ B) (s.up A.length) = ((p.run B s).1, (p.run B s).2.up A.length)
section
variable {α β : Type}
end
def clsOpen : Pr Cls := (first wInterface wClass).bind fun ifc => fresh.bind fun n => (superOr ifc).bind fun sup => (ifacesOf (if ifc = true then wExtends else wImplements)).bind fun ifs =>
 (want wLB).bind fun _ => (members 12 [] []).bind fun m => .ret ⟨n, ifc, sup, ifs, m.1, m.2⟩
theorem cls_open : cls = clsOpen.bind fun c => (want wRB).bind fun _ => .ret c := rfl
end Pp
end Go.Proofs.YtbbbnciejmdpfaaGreatDoor
namespace Go.Proofs.YtbbbnciejmdpfaaGreatDoor
namespace Pp
end Pp
end Go.Proofs.YtbbbnciejmdpfaaGreatDoor
namespace Go.Proofs.YtbbbnciejmdpfaaGreatDoor
namespace Pp
structure Good {α : Type} (p : Pr α) : Prop where
 law : Law p
 fin : ∀ (P : List Wd) (s : St), s.e = 0 -> s.i = P.length -> (p.run P s).2.i = P.length /\ ((p.run P s).2.e = 0 \/ (p.run P s).2.e = 4)
 cut : ∀ (P R : List Wd) (s : St), s.e = 0 -> s.i <= P.length -> (p.run (P ++ R) s).2.e = 0 ->
  (p.run P s = p.run (P ++ R) s /\ (p.run (P ++ R) s).2.i <= P.length) \/ ((p.run P s).2.i = P.length /\ ((p.run P s).2.e = 0 \/ (p.run P s).2.e = 4))
section
variable {α β : Type}
end
end Pp
end Go.Proofs.YtbbbnciejmdpfaaGreatDoor
namespace Go.Proofs.YtbbbnciejmdpfaaGreatDoor
namespace Pp
def nm (s : Bs) : Wd := ⟨1, s, 0⟩
def sg (s : Bs) : Wd := ⟨3, s, 0⟩
def tyW (t : Ty) : List Wd := if t.kind = 1 then [nm wVoid] else if t.kind = 2 then [nm wInt] else if t.kind = 4 then [nm wInt, sg wLK, sg wRK] else if t.kind = 3 then [nm t.name] else if t.kind = 5 then [nm t.name, sg wLK, sg wRK] else []
def okN (s : Bs) : Prop := Lx.nameL s = true /\ keptL s = false
def okTy (t : Ty) : Prop := ((t.kind = 1 \/ t.kind = 2 \/ t.kind = 4) /\ t.name = []) \/ ((t.kind = 3 \/ t.kind = 5) /\ okN t.name)
def hd (l : List Wd) (q : Wd -> Bool) : Bool := match l with
 | [] => false
 | w :: _ => q w
section
variable {α β : Type}
end
theorem name_ne {s : Bs} {c : UInt8} (h : Lx.nameL s = true) (hc : Lx.inw c = false) : (s == [c]) = false := by
 cases s with
 | nil => rfl
 | cons x r =>
   cases hb : (x :: r == [c]) with
   | false => rfl
   | true =>
     have e : x :: r = [c] := by simpa using hb
     injection e with e1 e2; subst e1; subst e2; simp [Lx.nameL, hc] at h
end Pp
end Go.Proofs.YtbbbnciejmdpfaaGreatDoor
namespace Go.Proofs.YtbbbnciejmdpfaaGreatDoor
namespace Pp
section
variable {α β : Type}
end
end Pp
namespace Lx
theorem nameL_iff (l : List UInt8) : nameL l = true ↔ 1 <= l.length /\ l.length <= 20 /\ dig (l.getD 0 0) = false /\ l.all inw = true := by
 cases l with
 | nil => simp [nameL]
 | cons c r =>
   simp only [nameL, Bool.and_eq_true, decide_eq_true_eq, Bool.not_eq_true', List.length_cons, List.getD_cons_zero]; constructor
   · rintro ⟨⟨h1, h2⟩, h3⟩; exact ⟨by omega, by omega, h2, h3⟩
   · rintro ⟨_, h1, h2, h3⟩; exact ⟨⟨by omega, h2⟩, h3⟩
end Lx
end Go.Proofs.YtbbbnciejmdpfaaGreatDoor
namespace Go.Proofs.YtbbbnciejmdpfaaGreatDoor
namespace Lx
def dg (n : Nat) : UInt8 := UInt8.ofNat (48 + n % 10)
def digF : Nat -> Nat -> List UInt8
 | 0, n => [dg n]
 | f + 1, n => if n < 10 then [dg n] else digF f (n / 10) ++ [dg n]
def digL (n : Nat) : List UInt8 := digF 19 n
def intL (n : Int) : List UInt8 := if n < 0 then 45 :: digL n.natAbs else digL n.natAbs
end Lx
end Go.Proofs.YtbbbnciejmdpfaaGreatDoor
namespace Go.Proofs.YtbbbnciejmdpfaaGreatDoor
namespace Lx
def ltrI (c : Int) : Bool := decide ((97 <= c /\ c <= 122) \/ (65 <= c /\ c <= 90) \/ c = 95)
def ltr (u : UInt8) : Bool := ltrI (u.toNat : Int)
theorem inw_let (u : UInt8) : inw u = (ltr u || dig u) := by
 rw [Bool.eq_iff_iff]; simp [inw, ltr, dig, inwI, ltrI, digI]; omega
theorem let_inw (u : UInt8) : ltr u = (!dig u && inw u) := by
 rw [Bool.eq_iff_iff]; simp [inw, ltr, dig, inwI, ltrI, digI]; omega
end Lx
end Go.Proofs.YtbbbnciejmdpfaaGreatDoor
namespace Go.Proofs.YtbbbnciejmdpfaaGreatDoor
namespace Lx
structure ATok where
 kind : Int
 text : List UInt8
 num : Int
 pos : Int
def wordA (t : ATok) : Option (List UInt8) :=
 if t.kind = 1 then (if t.num = 0 /\ nameL t.text = true then some t.text else none)
 else if t.kind = 2 then (if t.text = [] /\ -2147483648 <= t.num /\ t.num <= 2147483647 then some (intL t.num) else none)
 else if t.kind = 3 then (if t.num = 0 /\ signL t.text = true then some t.text else none)
 else none
end Lx
end Go.Proofs.YtbbbnciejmdpfaaGreatDoor
namespace Go.Proofs.YtbbbnciejmdpfaaGreatDoor
namespace Lx
end Lx
namespace Pp
structure XIns where
 op : Int
 n : Int
 a : Bs
 b : Bs
structure XMth where
 name : Bs
 stat : Bool
 abst : Bool
 params : List Ty
 ret : Ty
 locals : Int
 code : List XIns
 catches : List Ctc
structure XCls where
 name : Bs
 iface : Bool
 super : Bs
 ifaces : List Bs
 fields : List Fld
 methods : List XMth
def freshB (s : Bs) : Bool := Lx.nameL s && !keptL s
theorem freshB_iff (s : Bs) : freshB s = true ↔ okN s := by simp [freshB, okN]
def typeB (t : Ty) : Bool := if t.kind = 1 \/ t.kind = 2 \/ t.kind = 4 then t.name == [] else if t.kind = 3 \/ t.kind = 5 then freshB t.name else false
theorem typeB_iff (t : Ty) : typeB t = true ↔ okTy t := by
 unfold typeB okTy; by_cases h1 : t.kind = 1 \/ t.kind = 2 \/ t.kind = 4
 · rw [if_pos h1]
   constructor
   · intro h; exact .inl ⟨h1, by simpa using h⟩
   · rintro (⟨_, h⟩ | ⟨h, _⟩)
     · simp [h]
     · omega
 · rw [if_neg h1]
   by_cases h2 : t.kind = 3 \/ t.kind = 5
   · rw [if_pos h2, freshB_iff]
     constructor
     · intro h; exact .inr ⟨h2, h⟩
     · rintro (⟨h, _⟩ | ⟨_, h⟩)
       · exact absurd h h1
       · exact h
   · rw [if_neg h2]
     constructor
     · intro h; cases h
     · rintro (⟨h, _⟩ | ⟨h, _⟩)
       · exact absurd h h1
       · exact absurd h h2
def withinB (n lo hi : Int) : Bool := decide (lo <= n) && decide (n <= hi)
def eachB {α : Type} (l : List α) (most : Nat) (f : α -> Bool) : Bool := decide (l.length <= most) && l.all f
def fldB (f : Fld) : Bool := freshB f.name && typeB f.ty
def argsX (op : Int) : Bool × Int × Int × Int :=
 if op = 1 then (true, -2147483648, 2147483647, 0) else if op = 3 \/ op = 4 then (true, 0, 7, 0) else if 14 <= op /\ op <= 26 then (true, 0, 47, 0)
 else if op = 27 \/ op = 33 \/ op = 37 \/ op = 38 then (false, 0, 0, 1) else if (28 <= op /\ op <= 31) \/ op = 39 \/ op = 40 then (false, 0, 0, 2) else (false, 0, 0, 0)
def argB (s : Bs) (has : Bool) : Bool := if has = true then freshB s else s == []
def insB (i : XIns) : Bool := (decide (0 <= i.op) && decide (i.op < 44)) && (withinB i.n (argsX i.op).2.1 (argsX i.op).2.2.1 && (argB i.a (decide (1 <= (argsX i.op).2.2.2)) && argB i.b (decide (2 <= (argsX i.op).2.2.2))))
def ctcB (c : Ctc) : Bool := freshB c.name && (withinB c.lo 0 48 && (withinB c.hi 0 48 && withinB c.pc 0 48))
def bodyB (m : XMth) : Bool := if m.abst = true then m.locals == 0 && (m.code.isEmpty && m.catches.isEmpty) else withinB m.locals 0 8 && (eachB m.code 48 insB && eachB m.catches 4 ctcB)
def mthB (m : XMth) : Bool := freshB m.name && (eachB m.params 4 typeB && (typeB m.ret && bodyB m))
def supB (c : XCls) : Bool := c.super == [] || (!c.iface && freshB c.super)
def clsB (c : XCls) : Bool := freshB c.name && (supB c && (eachB c.ifaces 4 freshB && (eachB c.fields 6 fldB && eachB c.methods 6 mthB)))
def progB (cs : List XCls) : Bool := eachB cs 10 clsB
theorem withinB_iff (n lo hi : Int) : withinB n lo hi = true ↔ lo <= n /\ n <= hi := by simp [withinB]
theorem eachB_iff {α : Type} (l : List α) (most : Nat) (f : α -> Bool) : eachB l most f = true ↔ l.length <= most /\ ∀ x ∈ l, f x = true := by simp [eachB]
theorem argsX_shape (k : Nat) (hk : k < 44) : argsX (k : Int) = if shape k = 1 then (true, -2147483648, 2147483647, 0) else if shape k = 2 then (true, 0, 7, 0) else if shape k = 3 then (true, 0, 47, 0) else if shape k = 4 then (false, 0, 0, 1) else if shape k = 5 then (false, 0, 0, 2) else (false, 0, 0, 0) := by
 revert k; decide +kernel
theorem shape_le (k : Nat) : shape k <= 5 := by unfold shape; repeat (first | split | omega)
def wtx (w : Wd) : Bs := if w.kind = 2 then Lx.intL w.num else w.text
end Pp
open Go.RowKit
def RowX {α : Type} (w : World) (sz : Nat) (P : α -> List Value -> Prop) (v : Value) (l : List α) : Prop :=
 ∃ a c, v = .slice a l.length c /\ l.length <= c /\ (l = [] \/ ∃ b o, a = some ⟨b, o, none⟩ /\ b < w.heap.size /\ ∀ (k : Nat) (x : α), l[k]? = some x -> ∃ ys, P x ys /\ ∀ (j : Nat) (u : Value), ys[j]? = some u -> w.cell? ⟨b, o + k * sz + j, none⟩ = some u)
theorem RowX.on {α : Type} {w w' : World} {sz : Nat} {P P' : α -> List Value -> Prop} {v : Value} {l : List α} (h : RowX w sz P v l) (hb : Below w.heap.size w w') (hp : ∀ x ys, P x ys -> P' x ys) : RowX w' sz P' v l := by
 obtain ⟨a, c, rfl, hc, h⟩ := h; refine ⟨a, c, rfl, hc, ?_⟩
 rcases h with h | ⟨b, o, rfl, hlt, hx⟩
 · exact .inl h
 · refine .inr ⟨b, o, rfl, Nat.lt_of_lt_of_le hlt hb.size, fun k x hk => ?_⟩
   obtain ⟨ys, h1, h2⟩ := hx k x hk; exact ⟨ys, hp x ys h1, fun j u hj => (hb.cell (by exact hlt)).trans (h2 j u hj)⟩
theorem RowX.len {α : Type} {w : World} {sz : Nat} {P : α -> List Value -> Prop} {v : Value} {l : List α} (h : RowX w sz P v l) : ∃ a c, v = .slice a l.length c /\ l.length <= c := by
 obtain ⟨a, c, h1, h2, _⟩ := h; exact ⟨a, c, h1, h2⟩
def strL (s : Pp.Bs) : List Value := [.string ⟨s.toArray⟩]
def tyL (t : Pp.Ty) : List Value := [.int .i64 t.kind, .string ⟨t.name.toArray⟩]
def fldL (f : Pp.Fld) : List Value := [.string ⟨f.name.toArray⟩, .int .i64 f.ty.kind, .string ⟨f.ty.name.toArray⟩, .bool f.stat]
def insL (x : Pp.XIns) : List Value := [.int .i64 x.op, .int .i64 x.n, .string ⟨x.a.toArray⟩, .string ⟨x.b.toArray⟩]
def ctcL (c : Pp.Ctc) : List Value := [.string ⟨c.name.toArray⟩, .int .i64 c.lo, .int .i64 c.hi, .int .i64 c.pc]
def mthXL (m : Pp.XMth) (vp vc vk : Value) : List Value := [.string ⟨m.name.toArray⟩, .bool m.stat, .bool m.abst, vp, .int .i64 m.ret.kind, .string ⟨m.ret.name.toArray⟩, .int .i64 m.locals, vc, vk]
def clsXL (c : Pp.XCls) (vi vf vm : Value) : List Value := [.string ⟨c.name.toArray⟩, .bool c.iface, .string ⟨c.super.toArray⟩, vi, vf, vm]
def StrX (s : Pp.Bs) (ys : List Value) : Prop := ys = strL s /\ s.length <= maxLen
def TyX (t : Pp.Ty) (ys : List Value) : Prop := ys = tyL t /\ t.name.length <= maxLen
def FldX (f : Pp.Fld) (ys : List Value) : Prop := ys = fldL f /\ f.name.length <= maxLen /\ f.ty.name.length <= maxLen
def InsX (x : Pp.XIns) (ys : List Value) : Prop := ys = insL x /\ x.a.length <= maxLen /\ x.b.length <= maxLen
def CtcX (c : Pp.Ctc) (ys : List Value) : Prop := ys = ctcL c /\ c.name.length <= maxLen
def MthX (w : World) (m : Pp.XMth) (ys : List Value) : Prop := ∃ vp vc vk, ys = mthXL m vp vc vk /\ RowX w 2 TyX vp m.params /\ RowX w 4 InsX vc m.code /\ RowX w 4 CtcX vk m.catches /\
 m.name.length <= maxLen /\ m.ret.name.length <= maxLen /\ m.params.length <= maxLen /\ m.code.length <= maxLen /\ m.catches.length <= maxLen
def ClsX (w : World) (c : Pp.XCls) (ys : List Value) : Prop := ∃ vi vf vm, ys = clsXL c vi vf vm /\ RowX w 1 StrX vi c.ifaces /\ RowX w 4 FldX vf c.fields /\ RowX w 9 (MthX w) vm c.methods /\
 c.name.length <= maxLen /\ c.super.length <= maxLen /\ c.ifaces.length <= maxLen /\ c.fields.length <= maxLen /\ c.methods.length <= maxLen
def ProgX (w : World) (v : Value) (cs : List Pp.XCls) : Prop := RowX w 6 (ClsX w) v cs /\ cs.length <= maxLen
theorem MthX.on {w w' : World} {m : Pp.XMth} {ys : List Value} (h : MthX w m ys) (hb : Below w.heap.size w w') : MthX w' m ys := by
 obtain ⟨vp, vc, vk, rfl, h1, h2, h3, h4⟩ := h; exact ⟨vp, vc, vk, rfl, h1.on hb fun _ _ h => h, h2.on hb fun _ _ h => h, h3.on hb fun _ _ h => h, h4⟩
theorem ClsX.on {w w' : World} {c : Pp.XCls} {ys : List Value} (h : ClsX w c ys) (hb : Below w.heap.size w w') : ClsX w' c ys := by
 obtain ⟨vi, vf, vm, rfl, h1, h2, h3, h4⟩ := h; exact ⟨vi, vf, vm, rfl, h1.on hb fun _ _ h => h, h2.on hb fun _ _ h => h, h3.on hb fun _ _ h => h.on hb, h4⟩
theorem ProgX.on {w w' : World} {v : Value} {cs : List Pp.XCls} (h : ProgX w v cs) (hb : Below w.heap.size w w') : ProgX w' v cs := ⟨RowX.on h.1 hb fun _ _ h => h.on hb, h.2⟩
theorem cell_box {w : World} {b : Nat} {c : Array Value} {t : TypeId} {f : Nat × Nat} (h : w.heap[b]? = some (.cells c t f)) (k : Nat) : w.cell? ⟨b, k, none⟩ = c[k]? := cell_of_row w b k c t f h
theorem box_one {w w' : World} {c1 : Array Value} {t1 : TypeId} (hb : Below (w.alloc (.cells c1 t1)).heap.size (w.alloc (.cells c1 t1)) w') :
 (∀ k, w'.cell? ⟨w.heap.size, k, none⟩ = c1[k]?) /\ Below w.heap.size w w' /\ w.heap.size < w'.heap.size := by
 refine ⟨fun k => ?_, ((Below.refl _ _).alloc (Nat.le_refl _) _).trans (hb.mono (by simp)), by have := hb.size; simp at this; omega⟩
 refine cell_box (t := t1) (f := (0, 0)) ?_ k; rw [hb.block w.heap.size (by simp)]
 exact heap_alloc_new w _
namespace Pp
def LtF (f : Fld) : Prop := f.name.length <= 60 /\ f.ty.name.length <= 60
def LtI (x : XIns) : Prop := x.a.length <= 60 /\ x.b.length <= 60
def LtT (t : Ty) : Prop := t.name.length <= 60
def LtK (c : Ctc) : Prop := c.name.length <= 60
def LtS (s : Bs) : Prop := s.length <= 60
def LtM (m : XMth) : Prop := (m.name.length <= 60 /\ m.params.length <= 10 /\ m.code.length <= 60 /\ m.catches.length <= 10 /\ m.ret.name.length <= 60) /\ (∀ x ∈ m.code, LtI x) /\ (∀ t ∈ m.params, LtT t) /\ (∀ c ∈ m.catches, LtK c)
def LtC (c : XCls) : Prop := (c.fields.length <= 14 /\ c.methods.length <= 14 /\ c.ifaces.length <= 10 /\ c.name.length <= 60 /\ c.super.length <= 60) /\ (∀ f ∈ c.fields, LtF f) /\ (∀ s ∈ c.ifaces, LtS s) /\ (∀ m ∈ c.methods, LtM m)
def Light (cs : List XCls) : Prop := cs.length <= 14 /\ ∀ c ∈ cs, LtC c
theorem all_take {α : Type} {P : α -> Prop} {l : List α} {k : Nat} {x : α} (h : ∀ y ∈ l.take k, P y) (hx : l[k]? = some x) (hp : P x) : ∀ y ∈ l.take (k + 1), P y := by
 rw [List.take_add_one, hx]; intro y hy; rw [List.mem_append] at hy
 rcases hy with hy | hy
 · exact h y hy
 · simp at hy; subst hy; exact hp
theorem all_end {α : Type} {P : α -> Prop} {l : List α} {k : Nat} (h : ∀ y ∈ l.take k, P y) (hk : l.length <= k) : ∀ y ∈ l, P y := by
 rw [List.take_of_length_le hk] at h; exact h
end Pp
namespace Ow
theorem lt_of_blk {w : World} {k : Nat} {o : Obj} (h : w.heap[k]? = some o) : k < w.heap.size := by
 rcases Nat.lt_or_ge k w.heap.size with h1 | h1
 · exact h1
 · rw [Array.getElem?_eq_none h1] at h; cases h
theorem own_shape {w : World} {base e size : Nat} {v : Value} {n : Nat} {xs : List Value} (h : w.ownsRow base e size v n xs) : ∃ a cap, v = .slice a n cap := by
 rcases h.2 with ⟨rfl, rfl⟩ | ⟨g, cap, cur, rfl, _⟩
 · exact ⟨none, 0, rfl⟩
 · exact ⟨_, cap, rfl⟩
theorem own_at {w : World} {base e size : Nat} {v : Value} {n : Nat} {xs : List Value} (h : w.ownsRow base e size v n xs) (k : Nat) (hk : v.ownBlock = some k) : ∃ c, w.heap[k]? = some (.cells c e (0, 0)) := by
 rcases h.2 with ⟨rfl, _⟩ | ⟨g, cap, cur, rfl, hb, hg, r⟩
 · cases hk
 · cases hk; exact ⟨cur, hg⟩
section
variable {α : Type} {P P' : α -> List Value -> Prop} {sz : Nat}
def Flat (P : α -> List Value -> Prop) : List α -> List Value -> Prop
 | [], ys => ys = []
 | x :: l, ys => ∃ a b, ys = a ++ b /\ P x a /\ Flat P l b
def Shp (P : α -> List Value -> Prop) (sz : Nat) : Prop := ∀ x ys, P x ys -> ys.length = sz /\ ∀ u ∈ ys, u.oneCell' = true
theorem Flat.app : ∀ {l l' : List α} {ys ys' : List Value}, Flat P l ys -> Flat P l' ys' -> Flat P (l ++ l') (ys ++ ys')
 | [], _, _, _, h, h' => by cases h; exact h'
 | x :: l, _, _, _, ⟨a, b, e, hx, hl⟩, h' => ⟨a, b ++ _, by rw [e, List.append_assoc], hx, hl.app h'⟩
theorem Flat.one {x : α} {ys : List Value} (h : P x ys) : Flat P [x] ys := ⟨ys, [], by simp, h, rfl⟩
theorem Flat.mono (hp : ∀ x ys, P x ys -> P' x ys) : ∀ {l : List α} {ys : List Value}, Flat P l ys -> Flat P' l ys
 | [], _, h => h
 | x :: l, _, ⟨a, b, e, hx, hl⟩ => ⟨a, b, e, hp _ _ hx, hl.mono hp⟩
theorem Flat.len (hs : Shp P sz) : ∀ {l : List α} {ys : List Value}, Flat P l ys -> ys.length = l.length * sz
 | [], _, h => by cases h; simp
 | x :: l, _, ⟨a, b, e, hx, hl⟩ => by rw [e, List.length_append, (hs _ _ hx).1, hl.len hs, List.length_cons, Nat.succ_mul, Nat.add_comm]
theorem Flat.ones (hs : Shp P sz) : ∀ {l : List α} {ys : List Value}, Flat P l ys -> ∀ u ∈ ys, u.oneCell' = true
 | [], _, h => by cases h; intro u hu; cases hu
 | x :: l, _, ⟨a, b, e, hx, hl⟩ => by
   intro u hu; rw [e, List.mem_append] at hu
   rcases hu with hu | hu
   · exact (hs _ _ hx).2 u hu
   · exact hl.ones hs u hu
theorem Flat.at (hs : Shp P sz) : ∀ {l : List α} {ys : List Value}, Flat P l ys -> ∀ (k : Nat) (x : α), l[k]? = some x -> ∃ zs, P x zs /\ ∀ (j : Nat) (u : Value), zs[j]? = some u -> ys[k * sz + j]? = some u
 | [], _, _ => by intro k x h; simp at h
 | y :: l, _, ⟨a, b, e, hx, hl⟩ => by
   intro k x h; have ha := (hs _ _ hx).1; cases k with
   | zero =>
     simp at h; subst h; refine ⟨a, hx, fun j u hj => ?_⟩
     have hjl : j < a.length := by
      rcases Nat.lt_or_ge j a.length with h | h
      · exact h
      · rw [List.getElem?_eq_none h] at hj; cases hj
     rw [e, Nat.zero_mul, Nat.zero_add, List.getElem?_append_left hjl]; exact hj
   | succ k =>
     simp at h; obtain ⟨zs, h1, h2⟩ := hl.at hs k x h; refine ⟨zs, h1, fun j u hj => ?_⟩; rw [e, List.getElem?_append_right (by rw [ha, Nat.succ_mul]; omega), ha]
     rw [show (k + 1) * sz + j - sz = k * sz + j from by rw [Nat.succ_mul]; omega]
     exact h2 j u hj
theorem flat_of {w : World} {b : Nat} (hs : Shp P sz) : ∀ (l : List α) (o : Nat), (∀ (k : Nat) (x : α), l[k]? = some x -> ∃ ys, P x ys /\ ∀ (j : Nat) (u : Value), ys[j]? = some u -> w.cell? ⟨b, o + k * sz + j, none⟩ = some u) ->
 ∃ news, Flat P l news /\ ∀ (j : Nat) (u : Value), news[j]? = some u -> w.cell? ⟨b, o + j, none⟩ = some u
 | [], o, h => ⟨[], rfl, by intro j u hj; simp at hj⟩
 | x :: l, o, h => by
   obtain ⟨a, ha, hc⟩ := h 0 x rfl
   obtain ⟨news, hn, hcn⟩ := flat_of hs l (o + sz) (fun k y hk => by
    obtain ⟨ys, h1, h2⟩ := h (k + 1) y (by simpa using hk)
    refine ⟨ys, h1, fun j u hj => ?_⟩; have := h2 j u hj; rw [show o + (k + 1) * sz + j = o + sz + k * sz + j from by rw [Nat.succ_mul]; omega] at this
    exact this)
   refine ⟨a ++ news, ⟨a, news, rfl, ha, hn⟩, fun j u hj => ?_⟩; have hl := (hs _ _ ha).1
   rcases Nat.lt_or_ge j a.length with hj1 | hj1
   · rw [List.getElem?_append_left hj1] at hj
     have := hc j u hj; rw [Nat.zero_mul, Nat.add_zero] at this; exact this
   · rw [List.getElem?_append_right hj1] at hj
     have := hcn _ u hj; rw [show o + sz + (j - a.length) = o + j from by omega] at this
     exact this
end
def OwnX {α : Type} (w : World) (base e sz : Nat) (P : α -> List Value -> Prop) (v : Value) (l : List α) : Prop :=
 ∃ news, Flat P l news /\ w.ownsRow base e sz v l.length news
structure Kx (e : TypeId) (w w' : World) : Prop where
 size : w.heap.size <= w'.heap.size
 blk : ∀ (k : Nat) (c : Array Value) (t : TypeId) (f : Nat × Nat), w.heap[k]? = some (.cells c t f) -> t ≠ e -> w'.heap[k]? = some (.cells c t f)
section
variable {α : Type} {P P' : α -> List Value -> Prop} {sz base e : Nat} {w w' : World} {v : Value} {l : List α}
theorem OwnX.nil (w : World) (base e sz : Nat) (P : α -> List Value -> Prop) : OwnX w base e sz P (.slice none 0 0) ([] : List α) := ⟨[], rfl, World.ownsRow_nil _ _ _ _⟩
theorem OwnX.keep (h : OwnX w base e sz P v l) (hp : ∀ x ys, P x ys -> P' x ys) (hk : ∀ (k : Nat) (c : Array Value), w.heap[k]? = some (Obj.cells c e (0, 0)) -> w'.heap[k]? = some (Obj.cells c e (0, 0))) : OwnX w' base e sz P' v l := by
 obtain ⟨news, hf, h1, h2⟩ := h; refine ⟨news, hf.mono hp, h1, ?_⟩
 rcases h2 with h2 | ⟨g, cap, cur, rfl, hb, hg, r⟩
 · exact .inl h2
 · exact .inr ⟨g, cap, cur, rfl, hb, hk g _ hg, r⟩
theorem OwnX.on (h : OwnX w base e sz P v l) (hb : Below w.heap.size w w') (hp : ∀ x ys, P x ys -> P' x ys) : OwnX w' base e sz P' v l :=
 h.keep hp fun k c hk => (hb.block k (lt_of_blk hk)).trans hk
theorem OwnX.kx {t : TypeId} (h : OwnX w base e sz P v l) (hk : Kx t w w') (ht : e ≠ t) (hp : ∀ x ys, P x ys -> P' x ys) : OwnX w' base e sz P' v l :=
 h.keep hp fun k c h => hk.blk k c e _ h ht
theorem OwnX.low {base' : Nat} (h : OwnX w base e sz P v l) (hb : base' <= base) (hp : ∀ x ys, P x ys -> P' x ys) : OwnX w base' e sz P' v l := by
 obtain ⟨news, hf, h1, h2⟩ := h; refine ⟨news, hf.mono hp, h1, ?_⟩
 rcases h2 with h2 | ⟨g, cap, cur, rfl, hg, r⟩
 · exact .inl h2
 · exact .inr ⟨g, cap, cur, rfl, Nat.le_trans hb hg, r⟩
theorem OwnX.shape (h : OwnX w base e sz P v l) : ∃ a c, v = .slice a l.length c := by
 obtain ⟨_, _, h⟩ := h; exact own_shape h
theorem OwnX.row (h : OwnX w base e sz P v l) (hs : Shp P sz) (hp : ∀ x ys, P x ys -> P' x ys) : RowX w sz P' v l := by
 obtain ⟨news, hf, h1, h2⟩ := h
 rcases h2 with ⟨rfl, h0⟩ | ⟨g, cap, cur, rfl, hb, hg, hc, hm, hz, ht⟩
 · have : l = [] := List.length_eq_zero_iff.1 h0
   subst this; exact ⟨none, 0, rfl, Nat.le_refl _, .inl rfl⟩
 · refine ⟨_, cap, rfl, hc, .inr ⟨g, 0, rfl, lt_of_blk hg, fun k x hx => ?_⟩⟩
   obtain ⟨zs, h3, h4⟩ := hf.at hs k x hx; refine ⟨zs, hp _ _ h3, fun j u hj => ?_⟩; have h5 := h4 j u hj; rw [Nat.zero_add, cell_box hg]
   have hlt : k * sz + j < news.length := by
    rcases Nat.lt_or_ge (k * sz + j) news.length with h | h
    · exact h
    · rw [List.getElem?_eq_none h] at h5; cases h5
   rw [<- ht, List.getElem?_take, if_pos (by rw [<- h1]; exact hlt)] at h5
   simpa using h5
theorem Kx.refl (e : TypeId) (w : World) : Kx e w w := ⟨Nat.le_refl _, fun _ _ _ _ h _ => h⟩
theorem Kx.trans {a b c : World} (h : Kx e a b) (k : Kx e b c) : Kx e a c := ⟨Nat.le_trans h.size k.size, fun i x t f hx h1 => k.blk i x t f (h.blk i x t f hx h1) h1⟩
theorem kx_grown (h : OwnX w base e sz P v l) (hg : w.grownBy w' v.ownBlock) : Kx e w w' := by
 obtain ⟨news, _, h⟩ := h; refine ⟨hg.size, fun k c t f hk ht => (hg.block k (lt_of_blk hk) fun h2 => ?_).trans hk⟩; obtain ⟨c', hc'⟩ := own_at h k h2.symm; rw [hc'] at hk; simp at hk; exact ht hk.2.1.symm
theorem bel_grown (h : OwnX w base e sz P v l) (hB : base <= w.heap.size) (hg : w.grownBy w' v.ownBlock) : Below base w w' := by
 obtain ⟨news, _, h⟩ := h; exact Below.grown (Below.refl _ _) hg hB (fun k hk => (h.lt k hk).1)
theorem run_app {Pr : Program} {t ty : TypeId} {i : TypeInfo} {n bytes : Nat} (ht : Pr.underlying t = some (.slice e)) (hi : Pr.info? e = some i) (hz : i.zero.map (fun z => z.cells.size) = some sz) (hsize : i.size = sz) (hby : i.bytes = bytes) (hsz : 0 < sz) (hs : Shp P sz)
 (ho : OwnX w base e sz P v l) {v2 : Value} {l2 : List α} (hr : RowX w sz P v2 l2) (h63 : l.length + l2.length <= 1000000) (hb2 : bytes <= 1000) (hbase : base <= w.heap.size) :
 ∃ v' w', (Builtin.append_ #[t, t] ty #[v, v2]).run Pr w = .ok v' w' /\ OwnX w' base e sz P v' (l ++ l2) /\ w.grownBy w' v.ownBlock := by
 cases hzz : i.zero with
 | none => rw [hzz] at hz; cases hz
 | some z =>
   rw [hzz] at hz; simp at hz; obtain ⟨a, c, rfl, hc, hr⟩ := hr; obtain ⟨news, hf, hown⟩ := ho
   have key : ∀ (ad : Addr) (news2 : List Value), Flat P l2 news2 -> (∀ j u, news2[j]? = some u -> w.cell? (ad.add j) = some u) -> ∃ v' w', (Builtin.append_ #[t, t] ty #[v, .slice (some ad) l2.length c]).run Pr w = .ok v' w' /\ OwnX w' base e sz P v' (l ++ l2) /\ w.grownBy w' v.ownBlock := by
    intro ad news2 hf2 hc2; have hbb : (l.length + l2.length) * bytes <= 1000000 * 1000 := Nat.mul_le_mul h63 hb2; obtain ⟨v', w', h1, h2, h3, _⟩ := run_append_own_at (P := Pr) w base t ty e i z sz bytes ht hi hzz hsize hby hz hsz v l.length news hown ad l2.length c news2 (hf2.len hs) hc2 (hf2.ones hs) (by unfold maxLen; omega) (by omega) hbase
    exact ⟨v', w', h1, ⟨news ++ news2, hf.app hf2, by rw [List.length_append]; exact h2⟩, h3⟩
   rcases hr with rfl | ⟨b, o, rfl, hlt, hx⟩
   · cases a with
     | some ad => exact key ad [] rfl (by intro j u hj; simp at hj)
     | none =>
       refine ⟨v, w, ?_, ⟨news, by simpa using hf, by simpa using hown⟩, ⟨rfl, rfl, rfl, Nat.le_refl _, fun _ _ _ => rfl⟩⟩
       rcases hown.2 with ⟨rfl, _⟩ | ⟨g, cap, cur, rfl, _, _, hnc, _⟩
       · simp [Builtin.append_, run_underlying ht, sizeOf, typeInfo, hi, Builtin.lenOf, Builtin.firstCells, loadCells, loadCellsFrom]
       · simp [Builtin.append_, run_underlying ht, sizeOf, typeInfo, hi, Builtin.lenOf, Builtin.firstCells, loadCells, loadCellsFrom, hnc, storeCells]
   · obtain ⟨news2, hf2, hc2⟩ := flat_of hs l2 o hx
     exact key ⟨b, o, none⟩ news2 hf2 (fun j u hj => by rw [Go.WideShapes.add_plain]; exact hc2 j u hj)
theorem wpList_app {Pr : Program} {ops : Array Oper} {rest : List Oper} {o : Oper} {a : Act} {Q : Exit -> Act -> World -> Prop} (hgd : o.guard = none) (s x : Operand) (t : TypeId)
 (hop : o.op = .call { callee := .builtin .append, args := #[s, x], argTypes := #[t, t] }) {i : TypeInfo} {bytes : Nat}
 (ht : Pr.underlying t = some (.slice e)) (hi : Pr.info? e = some i) (hz : i.zero.map (fun z => z.cells.size) = some sz) (hsize : i.size = sz) (hby : i.bytes = bytes) (hsz : 0 < sz) (hs : Shp P sz)
 (hv : a.eval s = v) (ho : OwnX w base e sz P v l) {v2 : Value} {l2 : List α} (hv2 : a.eval x = v2) (hr : RowX w sz P v2 l2) (h63 : l.length + l2.length <= 1000000) (hb2 : bytes <= 1000) (hbase : base <= w.heap.size)
 (h : ∀ v' w', OwnX w' base e sz P v' (l ++ l2) -> w.grownBy w' v.ownBlock -> wpList Pr ops Q rest (a.put o.dst v') w') : wpList Pr ops Q (o :: rest) a w := by
 refine wpList_plain hgd fun K hK => ?_; obtain ⟨v', w', hrun, h1, h2⟩ := run_app (Pr := Pr) (t := t) (ty := o.type) (n := 0) ht hi hz hsize hby hsz hs ho hr h63 hb2 hbase; unfold Oper.wp execOp; simp only [hop, resolve, invoke, builtin, Sem.run_bind, Sem.run_pure, Result.andThen_ok, List.map_toArray, List.map_cons, List.map_nil, hv, hv2, hrun]; exact hK _ _ (h v' w' h1 h2)
theorem step_app {Pr : Program} {ops : Array Oper} {o : Oper} {a : Act} {K : Act -> World -> Prop} {Q : Exit -> Act -> World -> Prop} {E : Prop} (hgd : o.guard = none) (s x : Operand) (t : TypeId)
 (hop : o.op = .call { callee := .builtin .append, args := #[s, x], argTypes := #[t, t] }) {i : TypeInfo} {bytes : Nat}
 (ht : Pr.underlying t = some (.slice e)) (hi : Pr.info? e = some i) (hz : i.zero.map (fun z => z.cells.size) = some sz) (hsize : i.size = sz) (hby : i.bytes = bytes) (hsz : 0 < sz) (hs : Shp P sz)
 (hv : a.eval s = v) (ho : OwnX w base e sz P v l) {v2 : Value} {l2 : List α} (hv2 : a.eval x = v2) (hr : RowX w sz P v2 l2) (h63 : l.length + l2.length <= 1000000) (hb2 : bytes <= 1000) (hbase : base <= w.heap.size)
 (h : ∀ v' w', OwnX w' base e sz P v' (l ++ l2) -> w.grownBy w' v.ownBlock -> K (a.put o.dst v') w') :
 if Region.wanted o (yielded ops a.tmps) = true then Oper.wp Pr o a w K Q else E := by
 have hw : Region.wanted o (yielded ops a.tmps) = true := by simp [Region.wanted, hgd]
 rw [if_pos hw]; obtain ⟨v', w', hrun, h1, h2⟩ := run_app (Pr := Pr) (t := t) (ty := o.type) (n := 0) ht hi hz hsize hby hsz hs ho hr h63 hb2 hbase; unfold Oper.wp execOp; simp only [hop, resolve, invoke, builtin, Sem.run_bind, Sem.run_pure, Result.andThen_ok, List.map_toArray, List.map_cons, List.map_nil, hv, hv2, hrun]; exact h v' w' h1 h2
end
theorem shp_str : Shp StrX 1 := by rintro x ys ⟨rfl, _⟩; exact ⟨rfl, by intro u hu; simp [strL] at hu; subst hu; rfl⟩
theorem shp_ty : Shp TyX 2 := by rintro x ys ⟨rfl, _⟩; exact ⟨rfl, by intro u hu; simp [tyL] at hu; rcases hu with rfl | rfl <;> rfl⟩
theorem shp_fld : Shp FldX 4 := by rintro x ys ⟨rfl, _⟩; exact ⟨rfl, by intro u hu; simp [fldL] at hu; rcases hu with rfl | rfl | rfl | rfl <;> rfl⟩
theorem shp_ins : Shp InsX 4 := by rintro x ys ⟨rfl, _⟩; exact ⟨rfl, by intro u hu; simp [insL] at hu; rcases hu with rfl | rfl | rfl | rfl <;> rfl⟩
theorem shp_ctc : Shp CtcX 4 := by rintro x ys ⟨rfl, _⟩; exact ⟨rfl, by intro u hu; simp [ctcL] at hu; rcases hu with rfl | rfl | rfl | rfl <;> rfl⟩
def MthO (w : World) (base : Nat) (m : Pp.XMth) (ys : List Value) : Prop := ∃ vp vc vk, ys = mthXL m vp vc vk /\ OwnX w base 26 2 TyX vp m.params /\ OwnX w base 59 4 InsX vc m.code /\ OwnX w base 61 4 CtcX vk m.catches /\
 m.name.length <= maxLen /\ m.ret.name.length <= maxLen /\ m.params.length <= maxLen /\ m.code.length <= maxLen /\ m.catches.length <= maxLen
def ClsO (w : World) (base : Nat) (c : Pp.XCls) (ys : List Value) : Prop := ∃ vi vf vm, ys = clsXL c vi vf vm /\ OwnX w base 9 1 StrX vi c.ifaces /\ OwnX w base 52 4 FldX vf c.fields /\ OwnX w base 57 9 (MthO w base) vm c.methods /\
 c.name.length <= maxLen /\ c.super.length <= maxLen /\ c.ifaces.length <= maxLen /\ c.fields.length <= maxLen /\ c.methods.length <= maxLen
def ProgO (w : World) (base : Nat) (v : Value) (cs : List Pp.XCls) : Prop := OwnX w base 42 6 (ClsO w base) v cs /\ cs.length <= maxLen
theorem shp_mth {w : World} {base : Nat} : Shp (MthO w base) 9 := by
 rintro x ys ⟨vp, vc, vk, rfl, h1, h2, h3, _⟩; obtain ⟨_, _, rfl⟩ := h1.shape; obtain ⟨_, _, rfl⟩ := h2.shape; obtain ⟨_, _, rfl⟩ := h3.shape; exact ⟨rfl, by intro u hu; simp [mthXL] at hu; rcases hu with rfl | rfl | rfl | rfl | rfl | rfl | rfl | rfl | rfl <;> rfl⟩
theorem shp_cls {w : World} {base : Nat} : Shp (ClsO w base) 6 := by
 rintro x ys ⟨vp, vc, vk, rfl, h1, h2, h3, _⟩; obtain ⟨_, _, rfl⟩ := h1.shape; obtain ⟨_, _, rfl⟩ := h2.shape; obtain ⟨_, _, rfl⟩ := h3.shape; exact ⟨rfl, by intro u hu; simp [clsXL] at hu; rcases hu with rfl | rfl | rfl | rfl | rfl | rfl <;> rfl⟩
theorem MthO.x {w : World} {base : Nat} {m : Pp.XMth} {ys : List Value} (h : MthO w base m ys) : MthX w m ys := by
 obtain ⟨vp, vc, vk, rfl, h1, h2, h3, h4⟩ := h; exact ⟨vp, vc, vk, rfl, h1.row shp_ty fun _ _ h => h, h2.row shp_ins fun _ _ h => h, h3.row shp_ctc fun _ _ h => h, h4⟩
theorem ClsO.x {w : World} {base : Nat} {m : Pp.XCls} {ys : List Value} (h : ClsO w base m ys) : ClsX w m ys := by
 obtain ⟨vp, vc, vk, rfl, h1, h2, h3, h4⟩ := h; exact ⟨vp, vc, vk, rfl, h1.row shp_str fun _ _ h => h, h2.row shp_fld fun _ _ h => h, h3.row shp_mth fun _ _ h => h.x, h4⟩
theorem MthO.on {w w' : World} {base base' : Nat} {m : Pp.XMth} {ys : List Value} (h : MthO w base m ys) (hb : Below w.heap.size w w') (hl : base' <= base) : MthO w' base' m ys := by
 obtain ⟨vp, vc, vk, rfl, h1, h2, h3, h4⟩ := h; exact ⟨vp, vc, vk, rfl, (h1.on hb fun _ _ h => h).low hl fun _ _ h => h, (h2.on hb fun _ _ h => h).low hl fun _ _ h => h, (h3.on hb fun _ _ h => h).low hl fun _ _ h => h, h4⟩
theorem ClsO.on {w w' : World} {base base' : Nat} {m : Pp.XCls} {ys : List Value} (h : ClsO w base m ys) (hb : Below w.heap.size w w') (hl : base' <= base) : ClsO w' base' m ys := by
 obtain ⟨vp, vc, vk, rfl, h1, h2, h3, h4⟩ := h; exact ⟨vp, vc, vk, rfl, (h1.on hb fun _ _ h => h).low hl fun _ _ h => h, (h2.on hb fun _ _ h => h).low hl fun _ _ h => h, (h3.on hb fun _ _ h => h.on hb hl).low hl fun _ _ h => h, h4⟩
theorem ProgO.on {w w' : World} {base base' : Nat} {v : Value} {cs : List Pp.XCls} (h : ProgO w base v cs) (hb : Below w.heap.size w w') (hl : base' <= base) : ProgO w' base' v cs := ⟨(h.1.on hb fun _ _ h => h.on hb hl).low hl fun _ _ h => h, h.2⟩
theorem MthO.kx {t : TypeId} {w w' : World} {base : Nat} {m : Pp.XMth} {ys : List Value} (h : MthO w base m ys) (hk : Kx t w w') (h1 : 26 ≠ t) (h2 : 59 ≠ t) (h3 : 61 ≠ t) : MthO w' base m ys := by
 obtain ⟨vp, vc, vk, rfl, k1, k2, k3, h4⟩ := h; exact ⟨vp, vc, vk, rfl, k1.kx hk h1 fun _ _ h => h, k2.kx hk h2 fun _ _ h => h, k3.kx hk h3 fun _ _ h => h, h4⟩
theorem ClsO.kx {t : TypeId} {w w' : World} {base : Nat} {m : Pp.XCls} {ys : List Value} (h : ClsO w base m ys) (hk : Kx t w w') (h1 : 26 ≠ t) (h2 : 59 ≠ t) (h3 : 61 ≠ t) (h5 : 9 ≠ t) (h6 : 52 ≠ t) (h7 : 57 ≠ t) : ClsO w' base m ys := by
 obtain ⟨vp, vc, vk, rfl, k1, k2, k3, h4⟩ := h; exact ⟨vp, vc, vk, rfl, k1.kx hk h5 fun _ _ h => h, k2.kx hk h6 fun _ _ h => h, k3.kx hk h7 fun _ _ h => h.kx hk h1 h2 h3, h4⟩
end Ow
end Go.Proofs.YtbbbnciejmdpfaaGreatDoor

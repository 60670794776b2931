/- The words of a program that can be shown are words, and not too many. No program is named here. What the page's Shown leans on, where the program has no writer: a type's words, instructions by their arguments. What the page's Name answers. What the page's Kept answers. -/
import Derived.Test.YtildjihgklgibaaDoorMgA
import Derived.Test.YtildjihgklgibaaDoorShowI
import Derived.Test.YtildjihgklgibaaDoorShowA
import Derived.Test.YtildjihgklgibaaDoorMemX
namespace Go.Proofs.YtildjihgklgibaaDoor
namespace Pp
set_option linter.unusedVariables false
set_option linter.unusedSimpArgs false

/-- A word that can be written, as it is written; so many of them. -/
def GW (w : Wd) : Prop := Lx.wordA ⟨w.kind, w.text, w.num, 0⟩ = some (wtx w)
def GWs (n : Nat) (ws : List Wd) : Prop := (∀ w ∈ ws, GW w) ∧ ws.length ≤ n
theorem gw_nm {s : Bs} (h : Lx.nameL s = true) : GW (nm s) := by simp [GW, nm, Lx.wordA, wtx, h]
theorem gw_sg {s : Bs} (h : Lx.signL s = true) : GW (sg s) := by simp [GW, sg, Lx.wordA, wtx, h]
theorem gw_nu {n : Int} (h : -2147483648 ≤ n ∧ n ≤ 2147483647) : GW (nu n) := by simp [GW, nu, Lx.wordA, wtx, h.1, h.2]
theorem gws_nil (n : Nat) : GWs n [] := ⟨by simp, by simp⟩
theorem gws_one {w : Wd} (h : GW w) : GWs 1 [w] := ⟨by simp [h], by simp⟩
theorem gws_cons {n : Nat} {w : Wd} {ws : List Wd} (h : GW w) (hs : GWs n ws) : GWs (n + 1) (w :: ws) := ⟨by intro x hx; simp at hx; rcases hx with rfl | hx; exact h; exact hs.1 x hx, by simp; exact hs.2⟩
theorem gws_app {n m : Nat} {a b : List Wd} (ha : GWs n a) (hb : GWs m b) : GWs (n + m) (a ++ b) := ⟨by intro x hx; simp at hx; rcases hx with hx | hx; exact ha.1 x hx; exact hb.1 x hx, by simp; have := ha.2; have := hb.2; omega⟩
theorem gws_mono {n m : Nat} {a : List Wd} (h : GWs n a) (hn : n ≤ m) : GWs m a := ⟨h.1, by have := h.2; omega⟩
theorem gw_ty {t : Ty} (h : okTy t) : GWs 3 (tyW t) := by
  obtain ⟨k, n⟩ := t
  have hi : GW (nm wInt) := gw_nm (by decide)
  have hv : GW (nm wVoid) := gw_nm (by decide)
  have hl : GW (sg wLK) := gw_sg (by decide)
  have hr : GW (sg wRK) := gw_sg (by decide)
  unfold tyW
  rcases h with ⟨h, _⟩ | ⟨h, h2⟩
  · simp only at h
    rcases h with rfl | rfl | rfl
    · exact gws_mono (gws_one hv) (by omega)
    · exact gws_mono (gws_one hi) (by omega)
    · exact gws_cons hi (gws_cons hl (gws_one hr))
  · simp only at h h2
    rcases h with rfl | rfl
    · exact gws_mono (gws_one (gw_nm h2.1)) (by omega)
    · exact gws_cons (gw_nm h2.1) (gws_cons hl (gws_one hr))
theorem gw_fld {f : Fld} (h : okFld f) : GWs 7 (fldW f) := by
  unfold fldW
  exact gws_mono (gws_app (gws_one (gw_nm (by cases f.stat <;> decide))) (gws_app (gws_one (gw_nm h.1.1)) (gws_app (gws_one (gw_sg (by decide))) (gws_app (gw_ty h.2) (gws_app (gws_one (gw_sg (by decide))) (gws_nil 0)))))) (by omega)
theorem op_name : ∀ k, k < 44 → Lx.nameL (opWords.getD k []) = true := by decide +kernel
theorem gw_ins {i : Ins} (h : okIns i) : GWs 4 (insW i) := by
  have ha : GWs 2 (argW i) := by
    unfold argW
    rcases h.2 with ⟨e, c1, c2, c3, c4⟩ | ⟨e, c1, c2, c3, c4⟩ | ⟨e, c1, c2, c3, c4⟩ | ⟨e, c1, c2, c3⟩ | ⟨e, c1, c2, c3⟩ | ⟨e, c1, c2, c3⟩
    · rw [if_pos (by omega)]; exact gws_mono (gws_one (gw_nu (by omega))) (by omega)
    · rw [if_pos (by omega)]; exact gws_mono (gws_one (gw_nu (by omega))) (by omega)
    · rw [if_pos (by omega)]; exact gws_mono (gws_one (gw_nu (by omega))) (by omega)
    · rw [if_neg (by omega), if_pos e]; exact gws_mono (gws_one (gw_nm c2.1)) (by omega)
    · rw [if_neg (by omega), if_neg (by omega), if_pos e]; exact gws_cons (gw_nm c2.1) (gws_one (gw_nm c3.1))
    · rw [if_neg (by omega), if_neg (by omega), if_neg (by omega)]; exact gws_nil _
  unfold insW
  exact gws_mono (gws_cons (gw_nm (op_name i.op h.1)) (gws_app ha (gws_app (gws_one (gw_sg (by decide))) (gws_nil 0)))) (by omega)
theorem gw_ctc {c : Ctc} (h : okCtc c) : GWs 6 (ctcW c) := by
  unfold ctcW
  exact gws_mono (gws_app (gws_one (gw_nm (by decide))) (gws_app (gws_one (gw_nm h.1.1)) (gws_app (gws_one (gw_nu (by have := h.2.1; omega))) (gws_app (gws_one (gw_nu (by have := h.2.2.1; omega))) (gws_app (gws_one (gw_nu (by have := h.2.2.2; omega))) (gws_app (gws_one (gw_sg (by decide))) (gws_nil 0))))))) (by omega)
theorem gw_many {α : Type} {f : α → List Wd} {n : Nat} : ∀ (l : List α), (∀ x ∈ l, GWs n (f x)) → GWs (l.length * n) (manyW f l)
  | [], _ => gws_nil _
  | x :: r, h => by
    have h1 := gws_app (h x (by simp)) (gw_many r fun y hy => h y (by simp [hy]))
    refine gws_mono h1 ?_
    rw [List.length_cons, Nat.add_mul]; omega
theorem gw_more {α : Type} {f : α → List Wd} {n : Nat} : ∀ (l : List α), (∀ x ∈ l, GWs n (f x)) → GWs (l.length * (n + 1)) (moreW f l)
  | [], _ => gws_nil _
  | x :: r, h => by
    have h1 := gws_cons (gw_sg (s := wComma) (by decide)) (gws_app (h x (by simp)) (gw_more r fun y hy => h y (by simp [hy])))
    refine gws_mono h1 ?_
    rw [List.length_cons, Nat.add_mul]; omega
theorem gw_comma {α : Type} {f : α → List Wd} {n : Nat} (l : List α) (h : ∀ x ∈ l, GWs n (f x)) : GWs (l.length * (n + 1)) (commaW f l) := by
  cases l with
  | nil => exact gws_nil _
  | cons x r =>
    have h1 := gws_app (h x (by simp)) (gw_more r fun y hy => h y (by simp [hy]))
    refine gws_mono h1 ?_
    rw [List.length_cons, Nat.add_mul]; omega
theorem gw_body {m : Mth} (h : (0 ≤ m.locals ∧ m.locals ≤ 8) ∧ (m.code.length ≤ 48 ∧ ∀ i ∈ m.code, okIns i) ∧ (m.catches.length ≤ 4 ∧ ∀ c ∈ m.catches, okCtc c)) : GWs 220 (bodyW m) := by
  unfold bodyW
  refine gws_mono (gws_app (gws_one (gw_nm (by decide))) (gws_app (gws_one (gw_nu (by omega))) (gws_app (gws_one (gw_sg (by decide))) (gws_app (gw_many m.code fun i hi => gw_ins (h.2.1.2 i hi)) (gws_app (gw_many m.catches fun i hi => gw_ctc (h.2.2.2 i hi)) (gws_app (gws_one (gw_sg (by decide))) (gws_nil 0))))))) ?_
  omega
theorem gw_mth {m : Mth} (h : okMth m) : GWs 245 (mthW m) := by
  obtain ⟨h1, ⟨h2, h3⟩, h4, h5⟩ := h
  have hs : GWs 1 (if m.abst = true then [sg wSemi] else []) := by
    split
    · exact gws_one (gw_sg (by decide))
    · exact gws_nil _
  have hb : GWs 220 (if m.abst = true then [] else bodyW m) := by
    rcases h5 with ⟨e, _⟩ | ⟨e, h5⟩
    · rw [if_pos e]; exact gws_nil _
    · rw [if_neg (by rw [e]; exact Bool.false_ne_true)]; exact gw_body h5
  unfold mthW
  refine gws_mono (gws_app (gws_one (gw_nm (by cases m.stat <;> decide))) (gws_app (gws_one (gw_nm h1.1)) (gws_app (gws_one (gw_sg (by decide))) (gws_app (gw_comma m.params fun t ht => gw_ty (h3 t ht)) (gws_app (gws_one (gw_sg (by decide))) (gws_app (gw_ty h4) (gws_app hs (gws_app hb (gws_nil 0))))))))) ?_
  omega
theorem gw_cls {c : Cls} (h : okCls c) : GWs 1600 (clsW c) := by
  obtain ⟨h1, h2, ⟨h3, h4⟩, ⟨h5, h6⟩, h7, h8⟩ := h
  have hs : GWs 2 (supW c) := by
    unfold supW
    split
    · exact gws_nil _
    · rename_i hn
      rcases h2 with e | ⟨_, e⟩
      · exact absurd e hn
      · exact gws_cons (gw_nm (by decide)) (gws_one (gw_nm e.1))
  have hi : GWs 9 (ifsW c) := by
    unfold ifsW
    split
    · exact gws_nil _
    · refine gws_mono (gws_cons (gw_nm (by cases c.iface <;> decide)) (gw_comma c.ifaces fun s hs => gws_one (gw_nm (h4 s hs).1))) ?_
      omega
  unfold clsW
  refine gws_mono (gws_app (gws_one (gw_nm (by cases c.iface <;> decide))) (gws_app (gws_one (gw_nm h1.1)) (gws_app hs (gws_app hi (gws_app (gws_one (gw_sg (by decide))) (gws_app (gws_app (gw_many c.fields fun f hf => gw_fld (h6 f hf)) (gw_many c.methods fun m hm => gw_mth (h8 m hm))) (gws_app (gws_one (gw_sg (by decide))) (gws_nil 0)))))))) ?_
  omega
theorem gw_prog {cs : List Cls} (h : okProg cs) : GWs 16000 (manyW clsW cs) := by
  refine gws_mono (gw_many cs fun c hc => gw_cls (h.2 c hc)) ?_
  have := h.1
  omega
theorem wordsT_len : ∀ (ws : List Wd), (∀ w ∈ ws, GW w) → (wordsT ws).length ≤ 22 * ws.length
  | [], _ => by simp [wordsT, sayL]
  | w :: r, h => by
    have h1 := Lx.wordA_len _ _ (h w (by simp))
    have h2 := wordsT_len r fun x hx => h x (by simp [hx])
    have e : wordsT (w :: r) = wtx w ++ (behL (wtx w) :: wordsT r) := rfl
    rw [e, List.length_append, List.length_cons, List.length_cons]
    omega
theorem textX_len {cs : List XCls} (h : progB cs = true) : (textX cs).length ≤ 352000 := by
  have h1 := gw_prog ((progB_iff cs).1 h).2
  have h2 := wordsT_len _ h1.1
  have h3 := h1.2
  unfold textX
  omega

end Pp
end Go.Proofs.YtildjihgklgibaaDoor

namespace Go.Proofs.YtildjihgklgibaaDoor
open Go.RowKit
set_option linter.unusedVariables false
set_option linter.unusedSimpArgs false

namespace Pp
/-- A type's words without blanks; of what is none, none. -/
def typeT (t : Ty) : Bs := if typeB t = true then ((tyW t).map wtx).flatten else []
end Pp
namespace Sh
theorem wtx_nm (s : Pp.Bs) : Pp.wtx (Pp.nm s) = s := rfl
theorem wtx_sg (s : Pp.Bs) : Pp.wtx (Pp.sg s) = s := rfl
theorem wtx_nu (n : Int) : Pp.wtx (Pp.nu n) = Lx.intL n := rfl
theorem lt_of_blk {w : World} {k : Nat} {o : Obj} (h : w.heap[k]? = some o) : k < w.heap.size := by
  rcases Nat.lt_or_ge k w.heap.size with h1 | h1
  · exact h1
  · rw [Array.getElem?_eq_none h1] at h; cases h
theorem fz_blk {w : World} {b : Nat} {c : Array Value} {t : TypeId} (h : w.heap[b]? = some (.cells c t (0, 0))) (k : Nat) : w.frozen? ⟨b, k, none⟩ = false := by simp [World.frozen?, h]
theorem blk_put {w : World} {b : Nat} {v u : Value} {t : TypeId} (h : w.heap[b]? = some (.cells #[v] t (0, 0))) : (w.setCell ⟨b, 0, none⟩ u).heap[b]? = some (.cells #[u] t (0, 0)) := by
  have hlt := lt_of_blk h
  have h' : w.heap[b] = .cells #[v] t (0, 0) := by simpa [Array.getElem?_eq_getElem hlt] using h
  show (w.heap.modify b _)[b]? = _
  rw [Array.getElem?_eq_getElem (by simpa using hlt), Array.getElem_modify_self, h']
  rfl
theorem info_of {P : Program} {t : TypeId} {z : Option Value} {s b : Nat} (h : (P.info? t).map (fun i => (i.zero, i.size, i.bytes)) = some (z, s, b)) : ∃ i, P.info? t = some i ∧ i.zero = z ∧ i.size = s ∧ i.bytes = b := by
  cases hi : P.info? t with
  | none => rw [hi] at h; cases h
  | some i => rw [hi] at h; simp at h; exact ⟨i, rfl, h.1, h.2.1, h.2.2⟩
theorem str_sz (a : List UInt8) : (⟨a.toArray⟩ : ByteArray).size = a.length := by simp [ByteArray.size]
theorem row_at {α : Type} {W : World} {sz : Nat} {P : α → List Value → Prop} {a : Option Addr} {n c : Nat} {l : List α} (h : RowX W sz P (.slice a n c) l) {k : Nat} {x : α} (hx : l[k]? = some x) : ∃ b o, a = some ⟨b, o, none⟩ ∧ ∃ ys, P x ys ∧ ∀ wx, Below W.heap.size W wx → ∀ (j : Nat) (u : Value), ys[j]? = some u → wx.cell? ⟨b, o + k * sz + j, none⟩ = some u := by
  obtain ⟨a', c', e, hc, h⟩ := h
  injection e with e1 e2 e3
  subst e1
  rcases h with rfl | ⟨b, o, rfl, hlt, hr⟩
  · simp at hx
  · obtain ⟨ys, h1, h2⟩ := hr k x hx
    exact ⟨b, o, rfl, ys, h1, fun wx hb j u hj => (hb.cell (by exact hlt)).trans (h2 j u hj)⟩

theorem ins_cases (x : Pp.XIns) (h : Pp.insB x = true) : (0 ≤ x.op ∧ x.op < 44) ∧
    ((∃ lo hi, Pp.argsX x.op = (true, lo, hi, 0) ∧ (-2147483648 ≤ x.n ∧ x.n ≤ 2147483647) ∧ Pp.wordsT (Pp.insW x.toP) = Pp.sayL [wordL x.op] ++ (Pp.sayL [Lx.intL x.n] ++ Pp.sayL [Pp.wSemi])) ∨
     (Pp.argsX x.op = (false, 0, 0, 0) ∧ Pp.wordsT (Pp.insW x.toP) = Pp.sayL [wordL x.op] ++ Pp.sayL [Pp.wSemi]) ∨
     (Pp.argsX x.op = (false, 0, 0, 1) ∧ Pp.wordsT (Pp.insW x.toP) = Pp.sayL [wordL x.op] ++ (Pp.sayL [x.a] ++ Pp.sayL [Pp.wSemi])) ∨
     (Pp.argsX x.op = (false, 0, 0, 2) ∧ Pp.wordsT (Pp.insW x.toP) = Pp.sayL [wordL x.op] ++ (Pp.sayL [x.a] ++ (Pp.sayL [x.b] ++ Pp.sayL [Pp.wSemi])))) := by
  obtain ⟨h0, h1⟩ := (Pp.insB_iff x).1 h
  obtain ⟨op, n, a, b⟩ := x
  obtain ⟨k, rfl⟩ := Int.eq_ofNat_of_zero_le h0
  have hk : k < 44 := by have := h1.1; simpa [Pp.XIns.toP] using this
  have hw : wordL (k : Int) = Pp.opWords.getD k [] := by
    unfold wordL; rw [if_pos ⟨h0, by omega⟩]; simp
  have ha := h1.2
  simp only [Pp.XIns.toP, Int.toNat_natCast] at ha ⊢
  refine ⟨⟨h0, by omega⟩, ?_⟩
  rw [hw, Pp.argsX_shape k hk]
  unfold Pp.okArg at ha
  unfold Pp.insW Pp.argW
  simp only at ha ⊢
  rcases ha with ⟨e, c1, c2, c3, c4⟩ | ⟨e, c1, c2, c3, c4⟩ | ⟨e, c1, c2, c3, c4⟩ | ⟨e, c1, c2, c3⟩ | ⟨e, c1, c2, c3⟩ | ⟨e, c1, c2, c3⟩
  · refine .inl ⟨_, _, by rw [e]; rfl, ⟨by omega, by omega⟩, ?_⟩
    rw [e]; simp [Pp.wordsT, Pp.sayL, wtx_nm, wtx_sg, wtx_nu]
  · refine .inl ⟨_, _, by rw [e]; rfl, ⟨by omega, by omega⟩, ?_⟩
    rw [e]; simp [Pp.wordsT, Pp.sayL, wtx_nm, wtx_sg, wtx_nu]
  · refine .inl ⟨_, _, by rw [e]; rfl, ⟨by omega, by omega⟩, ?_⟩
    rw [e]; simp [Pp.wordsT, Pp.sayL, wtx_nm, wtx_sg, wtx_nu]
  · refine .inr (.inr (.inl ⟨by rw [e]; rfl, ?_⟩))
    rw [e]; simp [Pp.wordsT, Pp.sayL, wtx_nm, wtx_sg, wtx_nu]
  · refine .inr (.inr (.inr ⟨by rw [e]; rfl, ?_⟩))
    rw [e]; simp [Pp.wordsT, Pp.sayL, wtx_nm, wtx_sg, wtx_nu]
  · refine .inr (.inl ⟨by rw [e]; rfl, ?_⟩)
    rw [e]; simp [Pp.wordsT, Pp.sayL, wtx_nm, wtx_sg, wtx_nu]
end Sh
end Go.Proofs.YtildjihgklgibaaDoor

namespace Go.Proofs.YtildjihgklgibaaDoor
open Go.RowKit
set_option linter.unusedVariables false
set_option linter.unusedSimpArgs false

set_option maxHeartbeats 400000 in
theorem refDigit_any (c : Int) (w : World) :
    Calls Tryd.prog 67 #[.int .u8 c] w fun e w' => e = .returned (.bool (Lx.digI c)) ∧ w' = w := by
  go_enter Tryd.func67, Tryd.ntmps67
  go_wp2
  all_goals (go_ret; exact ⟨ret_bool (by simp [Lx.digI]; omega), rfl⟩)

set_option maxHeartbeats 400000 in
theorem refLetter_any (c : Int) (w : World) :
    Calls Tryd.prog 66 #[.int .u8 c] w fun e w' => e = .returned (.bool (Lx.ltrI c)) ∧ w' = w := by
  go_enter Tryd.func66, Tryd.ntmps66
  go_wp2
  all_goals (go_ret; exact ⟨ret_bool (by simp [Lx.ltrI]; try omega), rfl⟩)
set_option maxHeartbeats 1000000 in
theorem refName_any (s : ByteArray) (hs : s.size ≤ maxLen) (w : World) :
    Calls Tryd.prog 60 #[.string s] w fun e w' => e = .returned (.bool (Lx.nameL s.data.toList)) ∧ w' = w := by
  unfold maxLen at hs
  by_cases h1 : s.size < 1
  · have Hf := Lx.nameL_short s h1
    rw [Hf]; clear Hf
    go_enter Tryd.func60, Tryd.ntmps60
    go_wp2
    go_ret
    exact ⟨rfl, rfl⟩
  by_cases h20 : 20 < s.size
  · have Hf := Lx.nameL_long s h20
    rw [Hf]; clear Hf
    go_enter Tryd.func60, Tryd.ntmps60
    go_wp2
    go_ret
    exact ⟨rfl, rfl⟩
  have Hf := Lx.nameL_mid s (by omega) (by omega)
  rw [Hf]; clear Hf
  have h1' : 0 < s.size := by omega
  obtain ⟨R, hR⟩ : ∃ R : Bool, R = (!Lx.dig s[0] && s.data.toList.all Lx.inw) := ⟨_, rfl⟩
  rw [← hR]
  have HR : Hid (R = (!Lx.dig s[0] && s.data.toList.all Lx.inw)) := hR
  clear hR
  have hmem : ∀ k, ∀ h : k < s.size, s[k] ∈ s.data.toList := fun k h => by simp [ByteArray.getElem_eq_getElem_data]
  have HM : Hid (∀ k, ∀ h : k < s.size, s[k] ∈ s.data.toList) := hmem
  clear hmem
  cases hd : Lx.ltr s[0] with
  | false =>
    have hd' : Lx.ltrI (s[0].toNat : Int) = false := hd
    have HF : Hid (R = false) := by
      show _ = _
      rw [HR.out, Bool.eq_false_iff]
      intro h
      rw [Bool.and_eq_true] at h
      have hi := List.all_eq_true.1 h.2 s[0] (HM.out 0 h1')
      rw [Lx.let_inw, h.1, hi] at hd; cases hd
    clear hd
    go_enter Tryd.func60, Tryd.ntmps60
    go_wp2_with (go_at_call 66; refine (refLetter_any _ _).mono ?_; rintro e w' ⟨rfl, rfl⟩)
    go_ret
    exact ⟨ret_bool (by rw [HF.out]), rfl⟩
  | true =>
    have hd' : Lx.ltrI (s[0].toNat : Int) = true := hd
    rw [Lx.let_inw, Bool.and_eq_true] at hd
    have HF : Hid (R = s.data.toList.all Lx.inw) := by show _ = _; rw [HR.out, hd.1]; rfl
    have H1 : Hid ((s.data.toList.take 1).all Lx.inw = true) := by
      show _ = _
      have := Lx.take_snoc s 0 h1'
      rw [show 0 + 1 = 1 from rfl] at this
      rw [this]; simp [hd.2]
    clear hd HR
    go_enter Tryd.func60, Tryd.ntmps60
    go_wp2_with (go_at_call 66; refine (refLetter_any _ _).mono ?_; rintro e w' ⟨rfl, rfl⟩)
    clear hd'
    go_loop [3] (fun i => ∃ k : Nat, 1 ≤ k ∧ k ≤ s.size ∧ i = .int .i64 k ∧ Hid ((s.data.toList.take k).all Lx.inw = true)) (fun i => s.size - (intOf i).toNat)
    case atStart => exact ⟨1, by omega, by omega, rfl, H1⟩
    case round =>
      obtain ⟨k, hk1, hk, rfl, HA⟩ := hrel
      clear H1
      by_cases hlt : k < s.size
      · have hts := Lx.take_snoc s k hlt
        have HT : Hid ((s.data.toList.take (k + 1)).all Lx.inw = ((s.data.toList.take k).all Lx.inw && Lx.inw s[k])) := by rw [hts]; exact Lx.all_snoc _ _ _
        clear hts
        cases hl : Lx.ltr s[k] with
        | true =>
          have hl' : Lx.ltrI (s[k].toNat : Int) = true := hl
          have HW : Hid (Lx.inw s[k] = true) := by show _ = _; rw [Lx.inw_let, hl]; rfl
          clear hl
          go_wp2_with (go_at_call 66; refine (refLetter_any _ _).mono ?_; rintro e w' ⟨rfl, rfl⟩)
          go_round
          case rel => exact ⟨k + 1, by omega, by omega, by go_num, by show _ = _; rw [HT.out, HA.out, HW.out]; rfl⟩
          case measure => simp [intOf]; omega
        | false =>
          have hl' : Lx.ltrI (s[k].toNat : Int) = false := hl
          cases hg : Lx.dig s[k] with
          | true =>
            have hg' : Lx.digI (s[k].toNat : Int) = true := hg
            have HW : Hid (Lx.inw s[k] = true) := by show _ = _; rw [Lx.inw_let, hl, hg]; rfl
            clear hl hg
            go_wp2_with (first | (go_at_call 66; refine (refLetter_any _ _).mono ?_; rintro e w' ⟨rfl, rfl⟩) | (go_at_call 67; refine (refDigit_any _ _).mono ?_; rintro e w' ⟨rfl, rfl⟩))
            go_round
            case rel => exact ⟨k + 1, by omega, by omega, by go_num, by show _ = _; rw [HT.out, HA.out, HW.out]; rfl⟩
            case measure => simp [intOf]; omega
          | false =>
            have hg' : Lx.digI (s[k].toNat : Int) = false := hg
            have HN : Hid (s.data.toList.all Lx.inw = false) := by
              show _ = _
              rw [Bool.eq_false_iff]; intro h
              have := List.all_eq_true.1 h s[k] (HM.out k hlt)
              rw [Lx.inw_let, hl, hg] at this; cases this
            clear hl hg
            go_wp2_with (first | (go_at_call 66; refine (refLetter_any _ _).mono ?_; rintro e w' ⟨rfl, rfl⟩) | (go_at_call 67; refine (refDigit_any _ _).mono ?_; rintro e w' ⟨rfl, rfl⟩))
            go_ret
            exact ⟨ret_bool (by rw [HF.out, HN.out]), rfl⟩
      · have HN : Hid (s.data.toList.all Lx.inw = true) := by
          show _ = _
          rw [← HA.out, List.take_of_length_le (by simp; omega)]
        go_wp2
        go_ret
        exact ⟨ret_bool (by rw [HF.out, HN.out]), rfl⟩

theorem refName_is (s : ByteArray) (r : Bool) (h : Lx.nameL s.data.toList = r) (hs : s.size ≤ maxLen) (w : World) :
    Calls Tryd.prog 60 #[.string s] w fun e w' => e = .returned (.bool r) ∧ w' = w := by
  have := refName_any s hs w
  rw [h] at this
  exact this


end Go.Proofs.YtildjihgklgibaaDoor

namespace Go.Proofs.YtildjihgklgibaaDoor
open Go.RowKit
set_option linter.unusedVariables false
set_option linter.unusedSimpArgs false

set_option maxRecDepth 100000 in
set_option maxHeartbeats 4000000 in
theorem refKept_any (s : List UInt8) (w : World) :
    Calls Tryd.prog 61 #[.string ⟨s.toArray⟩] w fun e w' => e = .returned (.bool (Pp.keptL s)) ∧ Below w.heap.size w w' := by
  obtain ⟨K, hK⟩ : ∃ K, K = Pp.keptWords := ⟨_, rfl⟩
  have hL : Hid (K.length = 12) := by rw [hK]; exact hide rfl
  have hg : Hid (Pp.keptL s = K.any (· == s)) := by rw [hK]; rfl
  go_enter Tryd.func61, Tryd.ntmps61
  go_wp2
  generalize hA : (#[_, _, _, _, _, _, _, _, _, _, _, _] : Array Value) = A
  have hAK : A = (K.map fun t => Value.string ⟨t.toArray⟩).toArray := by rw [← hA, hK]; rfl
  clear hA hK
  have hAt : ∀ k, k < 12 → A[k]? = some (.string ⟨(K.getD k []).toArray⟩) := by
    intro k hk; rw [hAK]; simp [List.getD, show k < K.length by have := hL.out; omega]
  clear hAK
  go_loop [4] (fun i => ∃ k : Nat, k ≤ 12 ∧ i = .int .i64 k ∧ Hid ((K.take k).any (· == s) = false)) (fun i => 12 - (intOf i).toNat)
  case atStart => exact ⟨0, by omega, rfl, rfl⟩
  case round =>
    obtain ⟨k, hk, rfl, hp⟩ := hrel
    by_cases hlt : k < 12
    · have hix : (w.alloc (.cells A 9)).cell? ⟨w.heap.size, k, none⟩ = some (.string ⟨(K.getD k []).toArray⟩) := (cell_box (heap_alloc_new w _) k).trans (hAt k hlt)
      clear hAt
      obtain ⟨t, htt⟩ : ∃ t, t = K.getD k [] := ⟨_, rfl⟩
      rw [← htt] at hix
      have HT := hide htt
      clear htt
      have hlt' : (k : Int) < 12 := by omega
      by_cases hts : t = s
      · have hr := hide (hg.out.trans (Pp.any_at K s t k (by rw [hL.out]; exact hlt) HT.out hts))
        subst hts
        go_wp2
        go_ret
        rw [hr.out]
        exact ⟨rfl, (Below.refl _ _).alloc (Nat.le_refl _) _⟩
      · have hr := hide (Pp.any_step K s t k (by rw [hL.out]; exact hlt) HT.out hts hp.out)
        have hne : (t == s) = false := by simp [hts]
        go_wp2
        go_round
        case rel => exact ⟨k + 1, by omega, by go_num, hr⟩
        case measure => simp [intOf]; omega
    · have hr := hide (hg.out.trans (Pp.any_end K s k (by rw [hL.out]; exact hlt) hp.out))
      clear hAt
      go_wp2
      go_ret
      rw [hr.out]
      exact ⟨rfl, (Below.refl _ _).alloc (Nat.le_refl _) _⟩

end Go.Proofs.YtildjihgklgibaaDoor

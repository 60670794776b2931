/- How many lines a program's text has. No program is named here. -/
import Derived.Test.YtdgfidaopkcjoabDoorShowS0
namespace Go.Proofs.YtdgfidaopkcjoabDoor
namespace Pp
set_option linter.unusedVariables false
set_option linter.unusedSimpArgs false

def nl (l : Bs) : Nat := l.countP (· == 10)
theorem nl_app (a b : Bs) : nl (a ++ b) = nl a + nl b := by simp [nl]
theorem nl_snoc (a : Bs) (x : UInt8) : nl (a ++ [x]) = nl a + (if x = 10 then 1 else 0) := by
  rw [nl_app]; congr 1
  by_cases h : x = 10
  · subst h; rfl
  · rw [if_neg h]; simp [nl, h]
theorem nl_all {l : Bs} (h : l.all (· != 10) = true) : nl l = 0 := by
  unfold nl
  rw [List.countP_eq_zero]
  intro x hx
  have := List.all_eq_true.1 h x hx
  simpa using this
/-- One, where a line ends behind that word. -/
def lw (w : Wd) : Nat := if wtx w = wLB ∨ wtx w = wRB ∨ wtx w = wSemi then 1 else 0
def lws : List Wd → Nat
  | [] => 0
  | w :: r => lw w + lws r
theorem lws_app (a b : List Wd) : lws (a ++ b) = lws a + lws b := by
  induction a with
  | nil => simp [lws]
  | cons x r ih => simp only [List.cons_append, lws, ih]; omega
theorem inw_ten : Lx.inw 10 = false := by decide
theorem no_ten {l : Bs} (h : l.all Lx.inw = true) : l.all (· != 10) = true := by
  rw [List.all_eq_true] at h ⊢
  intro x hx
  have := h x hx
  simp
  rintro rfl
  rw [inw_ten] at this
  cases this
theorem word_ten (t : Lx.ATok) (l : Bs) (h : Lx.wordA t = some l) : l.all (· != 10) = true := by
  unfold Lx.wordA at h
  by_cases h1 : t.kind = 1
  · rw [if_pos h1] at h
    split at h
    · rename_i hc
      injection h with h; subst h
      exact no_ten ((Lx.nameL_iff _).1 hc.2).2.2.2
    · cases h
  · rw [if_neg h1] at h
    by_cases h2 : t.kind = 2
    · rw [if_pos h2] at h
      split at h
      · injection h with h; subst h
        have hall : (Lx.digL t.num.natAbs).all (· != 10) = true := by
          have := Lx.digF_dig 19 t.num.natAbs
          refine no_ten ?_
          rw [List.all_eq_true] at this ⊢
          exact fun x hx => Lx.dig_inw x (this x hx)
        unfold Lx.intL
        split
        · rw [List.all_cons, hall]; rfl
        · exact hall
      · cases h
    · rw [if_neg h2] at h
      split at h
      · split at h
        · rename_i hc
          injection h with h; subst h
          obtain ⟨hn, hsg⟩ := hc
          match hs : t.text, hsg with
          | [x], hsg =>
            have hx : Lx.sgn x = true := by simpa [Lx.signL] using hsg
            simp
            rintro rfl
            revert hx; decide
          | [], hsg => rfl
          | _ :: _ :: _, hsg => simp [Lx.signL] at hsg
        · cases h
      · cases h
theorem behL_ten (s : Bs) : (if behL s = 10 then 1 else 0) = if s = wLB ∨ s = wRB ∨ s = wSemi then 1 else 0 := by
  unfold behL
  by_cases h : s = wLB ∨ s = wRB ∨ s = wSemi
  · rw [if_pos h, if_pos h]; rfl
  · rw [if_neg h, if_neg h]; rfl
theorem nl_words : ∀ (ws : List Wd), (∀ w ∈ ws, GW w) → nl (wordsT ws) = lws ws
  | [], _ => rfl
  | w :: r, h => by
    have e : wordsT (w :: r) = (wtx w ++ [behL (wtx w)]) ++ wordsT r := by
      show wtx w ++ (behL (wtx w) :: wordsT r) = _
      simp
    rw [e, nl_app, nl_snoc, nl_all (word_ten _ _ (h w (by simp))), nl_words r fun x hx => h x (by simp [hx]), Nat.zero_add, lws, lw, behL_ten]
theorem lw_nm {s : Bs} (h : Lx.nameL s = true) : lw (nm s) = 0 := by
  have hw : wtx (nm s) = s := rfl
  unfold lw
  rw [hw, if_neg]
  intro e
  rcases e with e | e | e
  all_goals (rw [e] at h; revert h; decide)
theorem lw_sg {s : Bs} (h : ¬ (s = wLB ∨ s = wRB ∨ s = wSemi)) : lw (sg s) = 0 := by
  have hw : wtx (sg s) = s := rfl
  unfold lw
  rw [hw, if_neg h]
theorem lw_semi : lw (sg wSemi) = 1 := by decide
theorem lw_lb : lw (sg wLB) = 1 := by decide
theorem lw_rb : lw (sg wRB) = 1 := by decide
theorem lw_nu {n : Int} (h : -2147483648 ≤ n ∧ n ≤ 2147483647) : lw (nu n) = 0 := by
  have hw : wtx (nu n) = Lx.intL n := rfl
  unfold lw
  rw [hw, if_neg]
  have hl := Lx.digL_cons n.natAbs (by omega)
  obtain ⟨d, r, hd, hdd⟩ := hl
  intro e
  have key : ∀ c : UInt8, Lx.intL n = [c] → Lx.dig c = true := by
    intro c hc
    unfold Lx.intL at hc
    split at hc
    · rw [hd] at hc; simp at hc
    · rw [hd] at hc; simp at hc; rw [← hc.1]; exact hdd
  rcases e with e | e | e
  · have := key 123 e; revert this; decide
  · have := key 125 e; revert this; decide
  · have := key 59 e; revert this; decide
theorem lws_ty {t : Ty} (h : okTy t) : lws (tyW t) = 0 := by
  obtain ⟨k, n⟩ := t
  have h1 : lw (nm wInt) = 0 := lw_nm (by decide)
  have h2 : lw (nm wVoid) = 0 := lw_nm (by decide)
  have h3 : lw (sg wLK) = 0 := lw_sg (by decide)
  have h4 : lw (sg wRK) = 0 := lw_sg (by decide)
  rcases h with ⟨h, _⟩ | ⟨h, hn⟩
  · simp only at h
    rcases h with rfl | rfl | rfl
    · exact h2
    · exact h1
    · show lw (nm wInt) + (lw (sg wLK) + (lw (sg wRK) + 0)) = 0
      omega
  · simp only at h hn
    have h5 := lw_nm hn.1
    rcases h with rfl | rfl
    · exact h5
    · show lw (nm n) + (lw (sg wLK) + (lw (sg wRK) + 0)) = 0
      omega
theorem lws_fld {f : Fld} (h : okFld f) : lws (fldW f) = 1 := by
  have h1 : lw (nm (if f.stat = true then wStatic else wField)) = 0 := lw_nm (by cases f.stat <;> decide)
  have h2 := lw_nm h.1.1
  have h3 : lw (sg wColon) = 0 := lw_sg (by decide)
  unfold fldW
  simp only [lws_app, lws, lws_ty h.2, h1, h2, h3, lw_semi]
theorem lws_ins {i : Ins} (h : okIns i) : lws (insW i) = 1 := by
  have h1 : lw (nm (opWords.getD i.op [])) = 0 := lw_nm (op_name i.op h.1)
  have ha : lws (argW i) = 0 := by
    unfold argW
    rcases h.2 with ⟨e, c1, c2, c3, c4⟩ | ⟨e, c1, c2, c3, c4⟩ | ⟨e, c1, c2, c3, c4⟩ | ⟨e, c1, c2, c3⟩ | ⟨e, c1, c2, c3⟩ | ⟨e, c1, c2, c3⟩
    · rw [if_pos (by omega)]; exact lw_nu (by omega)
    · rw [if_pos (by omega)]; exact lw_nu (by omega)
    · rw [if_pos (by omega)]; exact lw_nu (by omega)
    · rw [if_neg (by omega), if_pos e]; exact lw_nm c2.1
    · rw [if_neg (by omega), if_neg (by omega), if_pos e]
      show lw (nm i.a) + (lw (nm i.b) + 0) = 0
      rw [lw_nm c2.1, lw_nm c3.1]
    · rw [if_neg (by omega), if_neg (by omega), if_neg (by omega)]; rfl
  unfold insW
  simp only [lws, lws_app, h1, ha, lw_semi]
theorem lws_ctc {c : Ctc} (h : okCtc c) : lws (ctcW c) = 1 := by
  unfold ctcW
  have h1 : lw (nm wCatch) = 0 := lw_nm (by decide)
  obtain ⟨g1, g2, g3, g4⟩ := h
  simp only [lws_app, lws, h1, lw_nm g1.1, lw_nu (n := c.lo) (by omega), lw_nu (n := c.hi) (by omega), lw_nu (n := c.pc) (by omega), lw_semi]
theorem lws_many {α : Type} {f : α → List Wd} : ∀ (l : List α), (∀ x ∈ l, lws (f x) = 1) → lws (manyW f l) = l.length
  | [], _ => rfl
  | x :: r, h => by
    rw [manyW, lws_app, h x (by simp), lws_many r fun y hy => h y (by simp [hy]), List.length_cons]; omega
theorem lws_more {α : Type} {f : α → List Wd} : ∀ (l : List α), (∀ x ∈ l, lws (f x) = 0) → lws (moreW f l) = 0
  | [], _ => rfl
  | x :: r, h => by
    rw [moreW, lws, lws_app, h x (by simp), lws_more r fun y hy => h y (by simp [hy]), lw_sg (by decide)]
theorem lws_comma {α : Type} {f : α → List Wd} (l : List α) (h : ∀ x ∈ l, lws (f x) = 0) : lws (commaW f l) = 0 := by
  cases l with
  | nil => rfl
  | cons x r => rw [commaW, lws_app, h x (by simp), lws_more r fun y hy => h y (by simp [hy])]
def linM (m : XMth) : Nat := 1 + (if m.abst = true then 0 else 1 + m.code.length + m.catches.length)
def linMs : List XMth → Nat
  | [] => 0
  | m :: r => linM m + linMs r
def linC (c : XCls) : Nat := 2 + c.fields.length + linMs c.methods
def linCs : List XCls → Nat
  | [] => 0
  | c :: r => linC c + linCs r
theorem linMs_app (a b : List XMth) : linMs (a ++ b) = linMs a + linMs b := by
  induction a with
  | nil => simp [linMs]
  | cons x r ih => simp only [List.cons_append, linMs, ih]; omega
theorem linCs_app (a b : List XCls) : linCs (a ++ b) = linCs a + linCs b := by
  induction a with
  | nil => simp [linCs]
  | cons x r ih => simp only [List.cons_append, linCs, ih]; omega
theorem linMs_take {l : List XMth} {k : Nat} {x : XMth} (h : l[k]? = some x) : linMs (l.take (k + 1)) = linMs (l.take k) + linM x := by
  rw [List.take_add_one, h, linMs_app]; rfl
theorem linCs_take {l : List XCls} {k : Nat} {x : XCls} (h : l[k]? = some x) : linCs (l.take (k + 1)) = linCs (l.take k) + linC x := by
  rw [List.take_add_one, h, linCs_app]; rfl
theorem lws_mth {m : XMth} (h : okMth m.toP) : lws (mthW m.toP) = linM m := by
  obtain ⟨n, st, ab, ps, rt, lo, co, ca⟩ := m
  obtain ⟨h1, ⟨h2, h3⟩, h4, h5⟩ := h
  simp only [XMth.toP] at h1 h2 h3 h4 h5
  have e1 : lw (nm wFunction) = 0 := lw_nm (by decide)
  have e1b : lw (nm wMethod) = 0 := lw_nm (by decide)
  have e2 := lw_nm h1.1
  have e3 : lw (sg wLP) = 0 := lw_sg (by decide)
  have e4 : lw (sg wRP) = 0 := lw_sg (by decide)
  have e5 := lws_comma (f := tyW) ps fun t ht => lws_ty (h3 t ht)
  have e6 := lws_ty h4
  unfold mthW linM
  rcases h5 with ⟨e0, _⟩ | ⟨e0, ⟨k1, k2⟩, ⟨_, k3⟩, _, k4⟩
  · simp only at e0
    subst e0
    cases st <;> simp only [XMth.toP, lws_app, lws, e1, e1b, e2, e3, e4, e5, e6, if_true, Bool.false_eq_true, if_false, lw_semi]
  · simp only at e0
    subst e0
    simp only at k1 k2 k3 k4
    have b1 : lw (nm wLocals) = 0 := lw_nm (by decide)
    have b2 : lw (nu lo) = 0 := lw_nu (by omega)
    have b3 := lws_many (f := insW) (co.map XIns.toP) fun i hi => lws_ins (k3 i hi)
    have b4 := lws_many (f := ctcW) ca fun i hi => lws_ctc (k4 i hi)
    cases st <;> simp only [XMth.toP, bodyW, lws_app, lws, e1, e1b, e2, e3, e4, e5, e6, Bool.false_eq_true, if_true, if_false, b1, b2, b3, b4, lw_lb, lw_rb, List.length_map] <;> omega
theorem lws_manyM : ∀ (l : List XMth), (∀ m ∈ l, okMth m.toP) → lws (manyW mthW (l.map XMth.toP)) = linMs l
  | [], _ => rfl
  | m :: r, h => by
    rw [List.map_cons, manyW, lws_app, lws_mth (h m (by simp)), lws_manyM r fun y hy => h y (by simp [hy]), linMs]
theorem lws_cls {c : XCls} (h : okCls c.toP) : lws (clsW c.toP) = linC c := by
  obtain ⟨n, ic, su, ifs, fs, ms⟩ := c
  obtain ⟨h1, h2, ⟨h3, h4⟩, ⟨h5, h6⟩, h7, h8⟩ := h
  simp only [XCls.toP] at h1 h2 h3 h4 h5 h6 h7 h8
  have e1 : lw (nm (if ic = true then wInterface else wClass)) = 0 := lw_nm (by cases ic <;> decide)
  have e2 := lw_nm h1.1
  have e3 : lws (supW (XCls.toP ⟨n, ic, su, ifs, fs, ms⟩)) = 0 := by
    unfold supW XCls.toP
    simp only
    split
    · rfl
    · rename_i hn
      rcases h2 with e | ⟨_, e⟩
      · exact absurd e hn
      · show lw (nm wExtends) + (lw (nm su) + 0) = 0
        rw [lw_nm (by decide), lw_nm e.1]
  have kx : ∀ b : Bool, Lx.nameL (if b = true then wExtends else wImplements) = true := by decide
  have e4 : lws (ifsW (XCls.toP ⟨n, ic, su, ifs, fs, ms⟩)) = 0 := by
    unfold ifsW XCls.toP
    simp only
    split
    · rfl
    · rw [lws, lws_comma _ fun s hs => (show lws [nm s] = 0 from lw_nm (h4 s hs).1), lw_nm (kx ic)]
  have e5 := lws_many (f := fldW) fs fun f hf => lws_fld (h6 f hf)
  have e6 := lws_manyM ms fun m hm => h8 m.toP (List.mem_map_of_mem hm)
  have e7 : lws (clsW (XCls.toP ⟨n, ic, su, ifs, fs, ms⟩)) = lw (nm (if ic = true then wInterface else wClass)) + (lw (nm n) + (lws (supW (XCls.toP ⟨n, ic, su, ifs, fs, ms⟩)) + (lws (ifsW (XCls.toP ⟨n, ic, su, ifs, fs, ms⟩)) + (lw (sg wLB) + ((lws (manyW fldW fs) + lws (manyW mthW (ms.map XMth.toP))) + lw (sg wRB)))))) := by
    unfold clsW
    simp only [lws_app, lws, Nat.add_zero]
    rfl
  rw [e7, e1, e2, e3, e4, e5, e6, lw_lb, lw_rb]
  unfold linC
  simp only
  omega
theorem nl_text {cs : List XCls} (h : progB cs = true) : nl (textX cs) = linCs cs := by
  have h1 := ((progB_iff cs).1 h).2
  unfold textX
  rw [nl_words _ (gw_prog h1).1]
  have h2 := h1.2
  clear h h1
  induction cs with
  | nil => rfl
  | cons c r ih =>
    rw [List.map_cons, manyW, lws_app, lws_cls (h2 c.toP (by simp)), ih (fun x hx => h2 x (by simp at hx ⊢; exact .inr hx)), linCs]

end Pp
end Go.Proofs.YtdgfidaopkcjoabDoor

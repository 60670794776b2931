/- The words of a program that can be shown are words, and not too many. No program is named here. -/
import Derived.Test.YtdgfidaopkcjoabDoorMgA
namespace Go.Proofs.YtdgfidaopkcjoabDoor
namespace Pp
set_option linter.unusedVariables false
set_option linter.unusedSimpArgs false

/-- A word that can be written, as it is written; so many of them. -/
def GW (w : Wd) : Prop := Lx.wordA ⟨w.kind, w.text, w.num, 0⟩ = some (wtx w)
def GWs (n : Nat) (ws : List Wd) : Prop := (∀ w ∈ ws, GW w) ∧ ws.length ≤ n
theorem gw_nm {s : Bs} (h : Lx.nameL s = true) : GW (nm s) := by simp [GW, nm, Lx.wordA, wtx, h]
theorem gw_sg {s : Bs} (h : Lx.signL s = true) : GW (sg s) := by simp [GW, sg, Lx.wordA, wtx, h]
theorem gw_nu {n : Int} (h : -2147483648 ≤ n ∧ n ≤ 2147483647) : GW (nu n) := by simp [GW, nu, Lx.wordA, wtx, h.1, h.2]
theorem gws_nil (n : Nat) : GWs n [] := ⟨by simp, by simp⟩
theorem gws_one {w : Wd} (h : GW w) : GWs 1 [w] := ⟨by simp [h], by simp⟩
theorem gws_cons {n : Nat} {w : Wd} {ws : List Wd} (h : GW w) (hs : GWs n ws) : GWs (n + 1) (w :: ws) := ⟨by intro x hx; simp at hx; rcases hx with rfl | hx; exact h; exact hs.1 x hx, by simp; exact hs.2⟩
theorem gws_app {n m : Nat} {a b : List Wd} (ha : GWs n a) (hb : GWs m b) : GWs (n + m) (a ++ b) := ⟨by intro x hx; simp at hx; rcases hx with hx | hx; exact ha.1 x hx; exact hb.1 x hx, by simp; have := ha.2; have := hb.2; omega⟩
theorem gws_mono {n m : Nat} {a : List Wd} (h : GWs n a) (hn : n ≤ m) : GWs m a := ⟨h.1, by have := h.2; omega⟩
theorem gw_ty {t : Ty} (h : okTy t) : GWs 3 (tyW t) := by
  obtain ⟨k, n⟩ := t
  have hi : GW (nm wInt) := gw_nm (by decide)
  have hv : GW (nm wVoid) := gw_nm (by decide)
  have hl : GW (sg wLK) := gw_sg (by decide)
  have hr : GW (sg wRK) := gw_sg (by decide)
  unfold tyW
  rcases h with ⟨h, _⟩ | ⟨h, h2⟩
  · simp only at h
    rcases h with rfl | rfl | rfl
    · exact gws_mono (gws_one hv) (by omega)
    · exact gws_mono (gws_one hi) (by omega)
    · exact gws_cons hi (gws_cons hl (gws_one hr))
  · simp only at h h2
    rcases h with rfl | rfl
    · exact gws_mono (gws_one (gw_nm h2.1)) (by omega)
    · exact gws_cons (gw_nm h2.1) (gws_cons hl (gws_one hr))
theorem gw_fld {f : Fld} (h : okFld f) : GWs 7 (fldW f) := by
  unfold fldW
  exact gws_mono (gws_app (gws_one (gw_nm (by cases f.stat <;> decide))) (gws_app (gws_one (gw_nm h.1.1)) (gws_app (gws_one (gw_sg (by decide))) (gws_app (gw_ty h.2) (gws_app (gws_one (gw_sg (by decide))) (gws_nil 0)))))) (by omega)
theorem op_name : ∀ k, k < 44 → Lx.nameL (opWords.getD k []) = true := by decide +kernel
theorem gw_ins {i : Ins} (h : okIns i) : GWs 4 (insW i) := by
  have ha : GWs 2 (argW i) := by
    unfold argW
    rcases h.2 with ⟨e, c1, c2, c3, c4⟩ | ⟨e, c1, c2, c3, c4⟩ | ⟨e, c1, c2, c3, c4⟩ | ⟨e, c1, c2, c3⟩ | ⟨e, c1, c2, c3⟩ | ⟨e, c1, c2, c3⟩
    · rw [if_pos (by omega)]; exact gws_mono (gws_one (gw_nu (by omega))) (by omega)
    · rw [if_pos (by omega)]; exact gws_mono (gws_one (gw_nu (by omega))) (by omega)
    · rw [if_pos (by omega)]; exact gws_mono (gws_one (gw_nu (by omega))) (by omega)
    · rw [if_neg (by omega), if_pos e]; exact gws_mono (gws_one (gw_nm c2.1)) (by omega)
    · rw [if_neg (by omega), if_neg (by omega), if_pos e]; exact gws_cons (gw_nm c2.1) (gws_one (gw_nm c3.1))
    · rw [if_neg (by omega), if_neg (by omega), if_neg (by omega)]; exact gws_nil _
  unfold insW
  exact gws_mono (gws_cons (gw_nm (op_name i.op h.1)) (gws_app ha (gws_app (gws_one (gw_sg (by decide))) (gws_nil 0)))) (by omega)
theorem gw_ctc {c : Ctc} (h : okCtc c) : GWs 6 (ctcW c) := by
  unfold ctcW
  exact gws_mono (gws_app (gws_one (gw_nm (by decide))) (gws_app (gws_one (gw_nm h.1.1)) (gws_app (gws_one (gw_nu (by have := h.2.1; omega))) (gws_app (gws_one (gw_nu (by have := h.2.2.1; omega))) (gws_app (gws_one (gw_nu (by have := h.2.2.2; omega))) (gws_app (gws_one (gw_sg (by decide))) (gws_nil 0))))))) (by omega)
theorem gw_many {α : Type} {f : α → List Wd} {n : Nat} : ∀ (l : List α), (∀ x ∈ l, GWs n (f x)) → GWs (l.length * n) (manyW f l)
  | [], _ => gws_nil _
  | x :: r, h => by
    have h1 := gws_app (h x (by simp)) (gw_many r fun y hy => h y (by simp [hy]))
    refine gws_mono h1 ?_
    rw [List.length_cons, Nat.add_mul]; omega
theorem gw_more {α : Type} {f : α → List Wd} {n : Nat} : ∀ (l : List α), (∀ x ∈ l, GWs n (f x)) → GWs (l.length * (n + 1)) (moreW f l)
  | [], _ => gws_nil _
  | x :: r, h => by
    have h1 := gws_cons (gw_sg (s := wComma) (by decide)) (gws_app (h x (by simp)) (gw_more r fun y hy => h y (by simp [hy])))
    refine gws_mono h1 ?_
    rw [List.length_cons, Nat.add_mul]; omega
theorem gw_comma {α : Type} {f : α → List Wd} {n : Nat} (l : List α) (h : ∀ x ∈ l, GWs n (f x)) : GWs (l.length * (n + 1)) (commaW f l) := by
  cases l with
  | nil => exact gws_nil _
  | cons x r =>
    have h1 := gws_app (h x (by simp)) (gw_more r fun y hy => h y (by simp [hy]))
    refine gws_mono h1 ?_
    rw [List.length_cons, Nat.add_mul]; omega
theorem gw_body {m : Mth} (h : (0 ≤ m.locals ∧ m.locals ≤ 8) ∧ (m.code.length ≤ 48 ∧ ∀ i ∈ m.code, okIns i) ∧ (m.catches.length ≤ 4 ∧ ∀ c ∈ m.catches, okCtc c)) : GWs 220 (bodyW m) := by
  unfold bodyW
  refine gws_mono (gws_app (gws_one (gw_nm (by decide))) (gws_app (gws_one (gw_nu (by omega))) (gws_app (gws_one (gw_sg (by decide))) (gws_app (gw_many m.code fun i hi => gw_ins (h.2.1.2 i hi)) (gws_app (gw_many m.catches fun i hi => gw_ctc (h.2.2.2 i hi)) (gws_app (gws_one (gw_sg (by decide))) (gws_nil 0))))))) ?_
  omega
theorem gw_mth {m : Mth} (h : okMth m) : GWs 245 (mthW m) := by
  obtain ⟨h1, ⟨h2, h3⟩, h4, h5⟩ := h
  have hs : GWs 1 (if m.abst = true then [sg wSemi] else []) := by
    split
    · exact gws_one (gw_sg (by decide))
    · exact gws_nil _
  have hb : GWs 220 (if m.abst = true then [] else bodyW m) := by
    rcases h5 with ⟨e, _⟩ | ⟨e, h5⟩
    · rw [if_pos e]; exact gws_nil _
    · rw [if_neg (by rw [e]; exact Bool.false_ne_true)]; exact gw_body h5
  unfold mthW
  refine gws_mono (gws_app (gws_one (gw_nm (by cases m.stat <;> decide))) (gws_app (gws_one (gw_nm h1.1)) (gws_app (gws_one (gw_sg (by decide))) (gws_app (gw_comma m.params fun t ht => gw_ty (h3 t ht)) (gws_app (gws_one (gw_sg (by decide))) (gws_app (gw_ty h4) (gws_app hs (gws_app hb (gws_nil 0))))))))) ?_
  omega
theorem gw_cls {c : Cls} (h : okCls c) : GWs 1600 (clsW c) := by
  obtain ⟨h1, h2, ⟨h3, h4⟩, ⟨h5, h6⟩, h7, h8⟩ := h
  have hs : GWs 2 (supW c) := by
    unfold supW
    split
    · exact gws_nil _
    · rename_i hn
      rcases h2 with e | ⟨_, e⟩
      · exact absurd e hn
      · exact gws_cons (gw_nm (by decide)) (gws_one (gw_nm e.1))
  have hi : GWs 9 (ifsW c) := by
    unfold ifsW
    split
    · exact gws_nil _
    · refine gws_mono (gws_cons (gw_nm (by cases c.iface <;> decide)) (gw_comma c.ifaces fun s hs => gws_one (gw_nm (h4 s hs).1))) ?_
      omega
  unfold clsW
  refine gws_mono (gws_app (gws_one (gw_nm (by cases c.iface <;> decide))) (gws_app (gws_one (gw_nm h1.1)) (gws_app hs (gws_app hi (gws_app (gws_one (gw_sg (by decide))) (gws_app (gws_app (gw_many c.fields fun f hf => gw_fld (h6 f hf)) (gw_many c.methods fun m hm => gw_mth (h8 m hm))) (gws_app (gws_one (gw_sg (by decide))) (gws_nil 0)))))))) ?_
  omega
theorem gw_prog {cs : List Cls} (h : okProg cs) : GWs 16000 (manyW clsW cs) := by
  refine gws_mono (gw_many cs fun c hc => gw_cls (h.2 c hc)) ?_
  have := h.1
  omega
theorem wordsT_len : ∀ (ws : List Wd), (∀ w ∈ ws, GW w) → (wordsT ws).length ≤ 22 * ws.length
  | [], _ => by simp [wordsT, sayL]
  | w :: r, h => by
    have h1 := Lx.wordA_len _ _ (h w (by simp))
    have h2 := wordsT_len r fun x hx => h x (by simp [hx])
    have e : wordsT (w :: r) = wtx w ++ (behL (wtx w) :: wordsT r) := rfl
    rw [e, List.length_append, List.length_cons, List.length_cons]
    omega
theorem textX_len {cs : List XCls} (h : progB cs = true) : (textX cs).length ≤ 352000 := by
  have h1 := gw_prog ((progB_iff cs).1 h).2
  have h2 := wordsT_len _ h1.1
  have h3 := h1.2
  unfold textX
  omega

end Pp
end Go.Proofs.YtdgfidaopkcjoabDoor

/- Texts that are alike are of programs that are alike. No program is named here. -/
import Derived.Test.YtdgfidaopkcjoaaDoorShowS0
namespace Go.Proofs.YtdgfidaopkcjoaaDoor
namespace Pp
set_option linter.unusedVariables false
set_option linter.unusedSimpArgs false

def tk (w : Wd) : Lx.ATok := ⟨w.kind, w.text, w.num, 0⟩
theorem beh_blk (s : Bs) : Lx.blk (behL s) = true := by
  unfold behL
  split <;> decide
theorem text_of : ∀ (ws : List Wd), (∀ w ∈ ws, GW w) → ∀ g : Bs, g.all Lx.blk = true → ∃ b rest, g ++ wordsT ws = b ++ rest ∧ Lx.TextOf (ws.map tk) b ∧ rest.all Lx.blk = true ∧ (g ≠ [] → Lx.Ahead b)
  | [], _, g, hg => ⟨[], g, by simp [wordsT, sayL], rfl, hg, fun _ => .inl rfl⟩
  | w :: r, h, g, hg => by
    obtain ⟨b', rest, h1, h2, h3, h4⟩ := text_of r (fun x hx => h x (by simp [hx])) [behL (wtx w)] (by rw [List.all_cons, beh_blk]; rfl)
    refine ⟨g ++ (wtx w ++ b'), rest, ?_, ⟨g, wtx w, b', rfl, hg, h w (by simp), h2, h4 (by simp)⟩, h3, fun hne => ?_⟩
    · have e : wordsT (w :: r) = wtx w ++ ([behL (wtx w)] ++ wordsT r) := rfl
      rw [e, h1]; simp only [List.append_assoc]
    · cases g with
      | nil => exact absurd rfl hne
      | cons c g =>
        simp only [List.all_cons, Bool.and_eq_true] at hg
        exact .inr ⟨c, _, rfl, hg.1⟩
/-- The words of a text are told by the text. -/
theorem words_scan {ws : List Wd} (h : ∀ w ∈ ws, GW w) (hn : (wordsT ws).length ≤ 6000) : ∃ l : List Lx.Tok, Lx.scanL (wordsT ws) = (l, 0, 0) ∧ l.map wd = ws := by
  obtain ⟨b, rest, h1, h2, h3, _⟩ := text_of ws h [] rfl
  rw [List.nil_append] at h1
  rw [h1] at hn ⊢
  obtain ⟨l, e, hm⟩ := Lx.scanL_text _ b rest h2 h3 hn
  refine ⟨l, e, ?_⟩
  have h5 : l.map wd = (l.map Lx.bare).map (fun x => (⟨x.1, x.2.1, x.2.2⟩ : Wd)) := by rw [List.map_map]; rfl
  rw [h5, hm, List.map_map, List.map_map]
  exact (List.map_congr_left (fun x _ => by cases x; rfl)).trans (List.map_id _)
theorem ins_inj {x y : XIns} (hx : 0 ≤ x.op) (hy : 0 ≤ y.op) (h : x.toP = y.toP) : x = y := by
  obtain ⟨a, b, c, d⟩ := x
  obtain ⟨a', b', c', d'⟩ := y
  simp only [XIns.toP, Ins.mk.injEq] at h hx hy
  obtain ⟨h1, rfl, rfl, rfl⟩ := h
  have : a = a' := by omega
  rw [this]
theorem map_inj {α β : Type} {f : α → β} {ok : α → Prop} (hf : ∀ x y, ok x → ok y → f x = f y → x = y) : ∀ (l m : List α), (∀ x ∈ l, ok x) → (∀ x ∈ m, ok x) → l.map f = m.map f → l = m
  | [], [], _, _, _ => rfl
  | [], _ :: _, _, _, h => by simp at h
  | _ :: _, [], _, _, h => by simp at h
  | x :: l, y :: m, h1, h2, h => by
    simp only [List.map_cons, List.cons.injEq] at h
    rw [hf x y (h1 x (by simp)) (h2 y (by simp)) h.1, map_inj hf l m (fun z hz => h1 z (by simp [hz])) (fun z hz => h2 z (by simp [hz])) h.2]
theorem mth_inj {x y : XMth} (hx : ∀ i ∈ x.code, 0 ≤ i.op) (hy : ∀ i ∈ y.code, 0 ≤ i.op) (h : x.toP = y.toP) : x = y := by
  obtain ⟨n, st, ab, ps, rt, lo, co, ca⟩ := x
  obtain ⟨n', st', ab', ps', rt', lo', co', ca'⟩ := y
  simp only [XMth.toP, Mth.mk.injEq] at h hx hy
  obtain ⟨rfl, rfl, rfl, rfl, rfl, rfl, h1, rfl⟩ := h
  rw [map_inj (ok := fun i : XIns => 0 ≤ i.op) (fun x y => ins_inj) co co' hx hy h1]
theorem cls_inj {x y : XCls} (hx : posX x) (hy : posX y) (h : x.toP = y.toP) : x = y := by
  obtain ⟨n, ic, su, ifs, fs, ms⟩ := x
  obtain ⟨n', ic', su', ifs', fs', ms'⟩ := y
  simp only [XCls.toP, Cls.mk.injEq] at h
  obtain ⟨rfl, rfl, rfl, rfl, rfl, h1⟩ := h
  rw [map_inj (ok := fun m : XMth => ∀ i ∈ m.code, 0 ≤ i.op) (fun x y => mth_inj) ms ms' hx hy h1]
theorem text_inj {p q : List XCls} (hp : progB p = true) (hq : progB q = true) (np : (textX p).length ≤ 6000) (h : textX p = textX q) : p = q := by
  obtain ⟨p1, p2⟩ := (progB_iff p).1 hp
  obtain ⟨q1, q2⟩ := (progB_iff q).1 hq
  obtain ⟨l1, e1, m1⟩ := words_scan (gw_prog p2).1 np
  obtain ⟨l2, e2, m2⟩ := words_scan (gw_prog q2).1 (by rw [h] at np; exact np)
  have hl : l1 = l2 := by
    have : Lx.scanL (textX p) = Lx.scanL (textX q) := by rw [h]
    unfold textX at this
    rw [e1, e2] at this
    exact (Prod.mk.inj this).1
  subst hl
  have hw : manyW clsW (p.map XCls.toP) = manyW clsW (q.map XCls.toP) := m1.symm.trans m2
  have r1 := reads_prog p2
  have r2 := reads_prog q2
  rw [hw, r2] at r1
  exact map_inj (ok := posX) (fun x y => cls_inj) p q p1 q1 (Prod.mk.inj r1).1.symm

end Pp
end Go.Proofs.YtdgfidaopkcjoaaDoor

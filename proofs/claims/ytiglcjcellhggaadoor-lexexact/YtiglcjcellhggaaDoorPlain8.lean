/- Words with blanks between them are scanned again. No program is named here. -/
import Derived.Test.YtiglcjcellhggaaDoorPlainJ
namespace Go.Proofs.YtiglcjcellhggaaDoor
namespace Lx
set_option linter.unusedVariables false
set_option linter.unusedSimpArgs false

def Ahead (rest : List UInt8) : Prop := rest = [] ∨ ∃ c r, rest = c :: r ∧ blk c = true
theorem blk_plain : ∀ n : Nat, n < 256 → blkI (n : Int) = true → inwI (n : Int) = false ∧ sgnI (n : Int) = false := by decide +kernel
theorem blk_not (u : UInt8) (h : blk u = true) : inw u = false ∧ sgn u = false := blk_plain u.toNat u.toNat_lt h
theorem dig_plain : ∀ n : Nat, n < 256 → digI (n : Int) = true → inwI (n : Int) = true := by decide +kernel
theorem dig_inw (u : UInt8) (h : dig u = true) : inw u = true := dig_plain u.toNat u.toNat_lt h
theorem sgn_plain : ∀ n : Nat, n < 256 → sgnI (n : Int) = true → inwI (n : Int) = false ∧ blkI (n : Int) = false ∧ digI (n : Int) = false ∧ n ≠ 45 := by decide +kernel
theorem sgn_not (u : UInt8) (h : sgn u = true) : inw u = false ∧ blk u = false ∧ dig u = false ∧ u.toNat ≠ 45 := sgn_plain u.toNat u.toNat_lt h

theorem runLen_ahead : ∀ (l rest : List UInt8), l.all inw = true → Ahead rest → runLen (l ++ rest) = l.length
  | [], rest, _, h => by
    rcases h with rfl | ⟨c, r, rfl, hc⟩
    · rfl
    · show (List.takeWhile inw (c :: r)).length = 0
      rw [List.takeWhile_cons, if_neg (by rw [(blk_not c hc).1]; exact Bool.false_ne_true)]; rfl
  | c :: l, rest, h, hr => by
    simp only [List.all_cons, Bool.and_eq_true] at h
    have ih := runLen_ahead l rest h.2 hr
    unfold runLen at ih ⊢
    rw [List.cons_append, List.takeWhile_cons, if_pos h.1, List.length_cons, ih, List.length_cons]

/-- What a token's word is: how long it is with something behind it, that it begins with no blank, that it is that token again. -/
theorem word_facts (t : ATok) (l : List UInt8) (h : wordA t = some l) :
    (∀ rest, Ahead rest → wordLen (l ++ rest) = l.length) ∧ (∃ c r, l = c :: r ∧ blk c = false) ∧ (∀ p, tokOf l p = some ⟨t.kind, t.text, t.num, p⟩) := by
  obtain ⟨k, s, n, q⟩ := t
  unfold wordA at h
  simp only at h ⊢
  by_cases h1 : k = 1
  · rw [if_pos h1] at h
    split at h
    · rename_i hc
      injection h with h; subst h
      obtain ⟨hn, hnm⟩ := hc
      obtain ⟨a, b, c, d⟩ := (nameL_iff _).1 hnm
      cases s with
      | nil => simp at a
      | cons x r =>
        have hx : inw x = true := by simp only [List.all_cons, Bool.and_eq_true] at d; exact d.1
        obtain ⟨g1, g2, g3⟩ := inw_not x hx
        refine ⟨fun rest hr => ?_, ⟨x, r, rfl, g1⟩, fun p => ?_⟩
        · rw [List.cons_append, wordLen, if_neg (by rw [g2]; exact Bool.false_ne_true), if_neg g3, ← List.cons_append, runLen_ahead _ rest d hr]
        · rw [tokOf, if_pos hnm, h1, hn]
    · cases h
  · rw [if_neg h1] at h
    by_cases h2 : k = 2
    · rw [if_pos h2] at h
      split at h
      · rename_i hc
        injection h with h; subst h
        obtain ⟨hs, hn0, hn1⟩ := hc
        have hnum := numL_int n (by omega)
        rw [if_pos ⟨hn0, hn1⟩] at hnum
        have hall : (digL n.natAbs).all inw = true := by
          have := digF_dig 19 n.natAbs
          rw [List.all_eq_true] at this ⊢
          exact fun x hx => dig_inw x (this x hx)
        obtain ⟨d, r, hd, hdd⟩ := digL_cons n.natAbs (by omega)
        have hdi := dig_inw d hdd
        obtain ⟨g1, g2, g3⟩ := inw_not d hdi
        refine ⟨fun rest hr => ?_, ?_, fun p => ?_⟩
        · unfold intL
          by_cases hneg : n < 0
          · rw [if_pos hneg, List.cons_append, wordLen, if_neg (by decide), if_pos (by decide), runLen_ahead _ rest hall hr, List.length_cons]; omega
          · rw [if_neg hneg]
            have e := runLen_ahead _ rest hall hr
            rw [hd] at e ⊢
            rw [List.cons_append] at e ⊢
            rw [wordLen, if_neg (by rw [g2]; exact Bool.false_ne_true), if_neg g3, e]
        · unfold intL
          by_cases hneg : n < 0
          · rw [if_pos hneg]; exact ⟨45, _, rfl, by decide⟩
          · rw [if_neg hneg, hd]; exact ⟨d, r, rfl, g1⟩
        · have hnm : nameL (intL n) = false := by
            apply nameL_no
            rintro ⟨_, _, hd0, hal⟩
            unfold intL at hd0 hal
            by_cases hneg : n < 0
            · rw [if_pos hneg] at hal
              simp only [List.all_cons, Bool.and_eq_true] at hal
              exact absurd hal.1 (by decide)
            · rw [if_neg hneg, hd, List.getD_cons_zero, hdd] at hd0
              cases hd0
          rw [tokOf, if_neg (by rw [hnm]; exact Bool.false_ne_true), hnum, h2, hs]
      · cases h
    · rw [if_neg h2] at h
      by_cases h3 : k = 3
      · rw [if_pos h3] at h
        split at h
        · rename_i hc
          injection h with h; subst h
          obtain ⟨hn, hsg⟩ := hc
          match s, hsg with
          | [x], hsg =>
            have hx : sgn x = true := hsg
            obtain ⟨g1, g2, g3, g4⟩ := sgn_not x hx
            refine ⟨fun rest hr => ?_, ⟨x, [], rfl, g2⟩, fun p => ?_⟩
            · show wordLen (x :: rest) = 1
              rw [wordLen, if_pos hx]
            · have hnm : nameL [x] = false := by
                apply nameL_no
                rintro ⟨_, _, _, hal⟩
                simp [g1] at hal
              have hnu : numL [x] = none := by
                rw [numL, if_neg g4, sizeL, if_neg (fun h => h.2 rfl), sizeGo, if_neg (by rw [g3]; exact Bool.false_ne_true)]; rfl
              rw [tokOf, if_neg (by rw [hnm]; exact Bool.false_ne_true), hnu]
              simp only
              rw [if_pos hsg, h3, hn]
          | [], hsg => cases hsg
          | _ :: _ :: _, hsg => cases hsg
        · cases h
      · rw [if_neg h3] at h; cases h

def bare (t : Tok) : Int × List UInt8 × Int := (t.kind, t.text, t.num)
def bareA (t : ATok) : Int × List UInt8 × Int := (t.kind, t.text, t.num)

/-- Words, each with blanks ahead of it (perhaps none, where it is the first one). -/
def TextOf : List ATok → List UInt8 → Prop
  | [], b => b = []
  | t :: r, b => ∃ g l b', b = g ++ (l ++ b') ∧ g.all blk = true ∧ wordA t = some l ∧ TextOf r b' ∧ Ahead b'

theorem scan_blanks : ∀ (g r : List UInt8) (f p : Nat) (acc : List Tok), g.all blk = true → g.length ≤ f → scanGo f (g ++ r) p acc = scanGo (f - g.length) r (p + g.length) acc
  | [], r, f, p, acc, _, _ => rfl
  | c :: g, r, f, p, acc, h, hf => by
    simp only [List.all_cons, Bool.and_eq_true] at h
    obtain ⟨f, rfl⟩ : ∃ f', f = f' + 1 := ⟨f - 1, by simp at hf; omega⟩
    rw [List.cons_append, scanGo, if_pos h.1, scan_blanks g r f (p + 1) acc h.2 (by simp at hf; omega), List.length_cons]
    congr 1
    · omega
    · omega
theorem scan_word (t : ATok) (l rest : List UInt8) (h : wordA t = some l) (hr : Ahead rest) (f p : Nat) (acc : List Tok) : scanGo (f + 1) (l ++ rest) p acc = scanGo f rest (p + l.length) (acc ++ [⟨t.kind, t.text, t.num, p⟩]) := by
  obtain ⟨h1, ⟨c, r, rfl, hb⟩, h3⟩ := word_facts t l h
  have hw := h1 rest hr
  rw [List.cons_append] at hw ⊢
  rw [scanGo, if_neg (by rw [hb]; exact Bool.false_ne_true), wordOf, hw, ← List.cons_append, List.take_left, h3 p]
  simp only
  rw [List.drop_left]
theorem Ahead_app (b rest : List UInt8) (h : Ahead b) (hr : Ahead rest) : Ahead (b ++ rest) := by
  rcases h with rfl | ⟨c, r, rfl, hc⟩
  · exact hr
  · exact .inr ⟨c, r ++ rest, rfl, hc⟩
theorem scan_text : ∀ (ts : List ATok) (b rest : List UInt8) (f p : Nat) (acc : List Tok), TextOf ts b → Ahead rest → (b ++ rest).length ≤ f →
    ∃ l f', scanGo f (b ++ rest) p acc = scanGo f' rest (p + b.length) (acc ++ l) ∧ rest.length ≤ f' ∧ l.map bare = ts.map bareA
  | [], b, rest, f, p, acc, h, hr, hf => by
    have hb : b = [] := h
    subst hb
    exact ⟨[], f, by simp, by simpa using hf, rfl⟩
  | t :: ts, b, rest, f, p, acc, h, hr, hf => by
    obtain ⟨g, l, b', rfl, hg, hw, htx, hah⟩ := h
    have hl := (wordA_len t l hw).1
    simp only [List.length_append] at hf
    obtain ⟨f2, hf2⟩ : ∃ f2, f - g.length = f2 + 1 := ⟨f - g.length - 1, by omega⟩
    obtain ⟨l', f', e, hf', hm⟩ := scan_text ts b' rest f2 (p + g.length + l.length) (acc ++ [⟨t.kind, t.text, t.num, p + g.length⟩]) htx hr (by simp only [List.length_append]; omega)
    refine ⟨⟨t.kind, t.text, t.num, p + g.length⟩ :: l', f', ?_, hf', ?_⟩
    · rw [List.append_assoc, List.append_assoc, scan_blanks g _ f p acc hg (by omega), hf2, scan_word t l (b' ++ rest) hw (Ahead_app b' rest hah hr) f2, e]
      simp only [List.append_assoc, List.length_append, List.cons_append, List.nil_append]
      congr 1; omega
    · simp only [List.map_cons, hm]; rfl
theorem scanL_text (ts : List ATok) (b rest : List UInt8) (h : TextOf ts b) (hr : rest.all blk = true) (hn : (b ++ rest).length ≤ 6000) : ∃ l, scanL (b ++ rest) = (l, 0, 0) ∧ l.map bare = ts.map bareA := by
  have hah : Ahead rest := by
    cases rest with
    | nil => exact .inl rfl
    | cons c r => simp only [List.all_cons, Bool.and_eq_true] at hr; exact .inr ⟨c, r, rfl, hr.1⟩
  rw [scanL, if_neg (by omega)]
  obtain ⟨l, f', e, hf', hm⟩ := scan_text ts b rest _ 0 [] h hah (Nat.le_refl _)
  refine ⟨l, ?_, hm⟩
  have e2 := scan_blanks rest [] f' (0 + b.length) ([] ++ l) hr hf'
  rw [List.append_nil] at e2
  rw [e, e2]
  cases f' - rest.length <;> rfl
theorem textOf_false : ∀ (ts : List ATok) (acc b : List UInt8), joinGo ts false acc = some b → ∃ b', b = acc ++ b' ∧ TextOf ts b' ∧ Ahead b'
  | [], acc, b, h => by simp [joinGo] at h; subst h; exact ⟨[], by simp, rfl, .inl rfl⟩
  | t :: r, acc, b, h => by
    rw [joinGo] at h
    cases hw : wordA t with
    | none => rw [hw] at h; cases h
    | some l =>
      rw [hw] at h
      simp only at h
      obtain ⟨b', rfl, ht, ha⟩ := textOf_false r _ b h
      refine ⟨[32] ++ (l ++ b'), by simp, ⟨[32], l, b', rfl, by decide, hw, ht, ha⟩, .inr ⟨32, l ++ b', rfl, by decide⟩⟩
theorem textOf_joinL (ts : List ATok) (b : List UInt8) (h : joinL ts = some b) : TextOf ts b := by
  cases ts with
  | nil => simp [joinL, joinGo] at h; exact h
  | cons t r =>
    rw [joinL, joinGo] at h
    cases hw : wordA t with
    | none => rw [hw] at h; cases h
    | some l =>
      rw [hw] at h
      simp only at h
      obtain ⟨b', rfl, ht, ha⟩ := textOf_false r _ b h
      exact ⟨[], l, b', by simp, rfl, hw, ht, ha⟩
theorem scanL_joined (ts : List ATok) (b : List UInt8) (h : joinL ts = some b) (hn : b.length ≤ 6000) : ∃ l, scanL b = (l, 0, 0) ∧ l.map bare = ts.map bareA := by
  have := scanL_text ts b [] (textOf_joinL ts b h) rfl (by simpa using hn)
  simpa using this

end Lx
end Go.Proofs.YtiglcjcellhggaaDoor

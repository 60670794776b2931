/- A call's own blocks beside the reader's. -/
import Derived.Test.YtdgfidaopkcjoaaGreatDoorRd3
import Derived.Test.YtdgfidaopkcjoaaGreatDoorOpX
namespace Go.Proofs.YtdgfidaopkcjoaaGreatDoor
open Go.RowKit
set_option linter.unusedVariables false
set_option linter.unusedSimpArgs false

structure Lo (w0 w : World) (b : Nat) (C : Cx) (s : Pp.St) (Ls : List (Nat × Array Value × TypeId)) : Prop where
  rd : Rd w b C s
  fr : Fr [b] w0 w
  lt : b < w0.heap.size
  bl : ∀ (i : Nat) x, Ls[i]? = some x → w.heap[x.1]? = some (.cells x.2.1 x.2.2 (0, 0))
  ge : ∀ (i : Nat) x, Ls[i]? = some x → w0.heap.size ≤ x.1 ∧ x.2.2 ≠ 85
  ne : ∀ (i j : Nat) x y, Ls[i]? = some x → Ls[j]? = some y → x.1 = y.1 → i = j

section
variable {w0 w : World} {b : Nat} {C : Cx} {s : Pp.St} {Ls : List (Nat × Array Value × TypeId)}
theorem Lo.start (h : Rd w b C s) : Lo w w b C s [] := ⟨h, Fr.refl _ _, h.lt, fun i x h => by simp at h, fun i x h => by simp at h, fun i j x y h => by simp at h⟩
theorem Lo.call (h : Lo w0 w b C s Ls) {w' : World} {s' : Pp.St} (hr : Rd w' b C s') (hf : Fr [b] w w') : Lo w0 w' b C s' Ls :=
  ⟨hr, h.fr.trans hf, h.lt, fun i x hx => (hf.block x.1 (lt_of_block (h.bl i x hx)) (fun hm => by simp at hm; have := (h.ge i x hx).1; have := h.lt; omega)).trans (h.bl i x hx), h.ge, h.ne⟩
theorem Lo.below (h : Lo w0 w b C s Ls) {w' : World} (hb : Below w.heap.size w w') : Lo w0 w' b C s Ls := h.call (h.rd.below hb) (Fr.ofBelow hb)
theorem Lo.alloc (h : Lo w0 w b C s Ls) (c : Array Value) (t : TypeId) (ht : t ≠ 85) : Lo w0 (w.alloc (.cells c t)) b C s (Ls ++ [(w.heap.size, c, t)]) := by
  have h1 := h.below ((Below.refl w.heap.size w).alloc (Nat.le_refl _) (.cells c t))
  have hcase : ∀ (i : Nat) x, (Ls ++ [(w.heap.size, c, t)])[i]? = some x → Ls[i]? = some x ∨ (i = Ls.length ∧ x = (w.heap.size, c, t)) := by
    intro i x hx
    rcases Nat.lt_or_ge i Ls.length with hl | hl
    · rw [List.getElem?_append_left hl] at hx; exact .inl hx
    · rw [List.getElem?_append_right hl] at hx
      have : i - Ls.length = 0 := by
        rcases Nat.eq_zero_or_pos (i - Ls.length) with h0 | h0
        · exact h0
        · rw [List.getElem?_eq_none (by simp; omega)] at hx; cases hx
      rw [this] at hx
      simp at hx
      exact .inr ⟨by omega, hx.symm⟩
  have hlt : ∀ (i : Nat) x, Ls[i]? = some x → x.1 < w.heap.size := fun i x hx => lt_of_block (h.bl i x hx)
  refine ⟨h1.rd, h1.fr, h.lt, ?_, ?_, ?_⟩
  · intro i x hx
    rcases hcase i x hx with h2 | ⟨_, rfl⟩
    · exact h1.bl i x h2
    · exact heap_alloc_new w _
  · intro i x hx
    rcases hcase i x hx with h2 | ⟨_, rfl⟩
    · exact h.ge i x h2
    · exact ⟨h.fr.size, ht⟩
  · intro i j x y hx hy hxy
    rcases hcase i x hx with h2 | ⟨h2, rfl⟩
    · rcases hcase j y hy with h3 | ⟨h3, rfl⟩
      · exact h.ne i j x y h2 h3 hxy
      · have := hlt i x h2; simp at hxy; omega
    · rcases hcase j y hy with h3 | ⟨h3, rfl⟩
      · have := hlt j y h3; simp at hxy; omega
      · omega
theorem Lo.set (h : Lo w0 w b C s Ls) (i : Nat) (x : Nat × Array Value × TypeId) (hx : Ls[i]? = some x) (k : Nat) (hk : k < x.2.1.size) (u : Value) : Lo w0 (w.setCell ⟨x.1, k, none⟩ u) b C s (Ls.set i (x.1, x.2.1.set k u hk, x.2.2)) := by
  have hxb : x.1 ≠ b := by have := (h.ge i x hx).1; have := h.lt; omega
  have hf : Fr [x.1] w (w.setCell ⟨x.1, k, none⟩ u) := (Fr.refl _ _).setCell (.inl (by simp)) _
  have h2 : 2 ≤ x.1 := by have := (h.ge i x hx).1; have := h.lt; have := h.rd.hb; omega
  have hcase : ∀ (j : Nat) y, (Ls.set i (x.1, x.2.1.set k u hk, x.2.2))[j]? = some y → (j ≠ i ∧ Ls[j]? = some y) ∨ (j = i ∧ y = (x.1, x.2.1.set k u hk, x.2.2)) := by
    intro j y hy
    rw [List.getElem?_set] at hy
    by_cases hij : i = j
    · rw [if_pos hij] at hy
      split at hy
      · simp at hy; exact .inr ⟨hij.symm, hy.symm⟩
      · cases hy
    · rw [if_neg hij] at hy; exact .inl ⟨Ne.symm hij, hy⟩
  refine ⟨h.rd.fr hf (fun z hz => ?_), h.fr.trans' hf (fun z hz => ?_), h.lt, ?_, ?_, ?_⟩
  · simp at hz; subst hz
    exact ⟨h2, hxb, fun c f hc => by rw [h.bl i x hx] at hc; simp at hc; exact (h.ge i x hx).2 hc.2.1⟩
  · simp at hz; subst hz; exact .inr (h.ge i x hx).1
  · intro j y hy
    rcases hcase j y hy with ⟨h1, h3⟩ | ⟨rfl, rfl⟩
    · have : y.1 ≠ x.1 := fun e => h1 (h.ne j i y x h3 hx e)
      rw [Below.heap_setCell _ _ _ _ this]; exact h.bl j y h3
    · exact blk_set (h.bl _ x hx) k hk u
  · intro j y hy
    rcases hcase j y hy with ⟨h1, h3⟩ | ⟨rfl, rfl⟩
    · exact h.ge j y h3
    · exact h.ge _ x hx
  · intro j1 j2 y1 y2 hy1 hy2 e
    rcases hcase j1 y1 hy1 with ⟨h1, h3⟩ | ⟨rfl, rfl⟩
    · rcases hcase j2 y2 hy2 with ⟨h4, h5⟩ | ⟨rfl, rfl⟩
      · exact h.ne j1 j2 y1 y2 h3 h5 e
      · exact h.ne _ _ y1 x h3 hx e
    · rcases hcase j2 y2 hy2 with ⟨h4, h5⟩ | ⟨rfl, rfl⟩
      · exact h.ne _ _ x y2 hx h5 e
      · rfl
theorem Lo.cell (h : Lo w0 w b C s Ls) (i : Nat) (x : Nat × Array Value × TypeId) (hx : Ls[i]? = some x) (k : Nat) : w.cell? ⟨x.1, k, none⟩ = x.2.1[k]? := cell_blk (h.bl i x hx) k
theorem Lo.fz (h : Lo w0 w b C s Ls) (i : Nat) (x : Nat × Array Value × TypeId) (hx : Ls[i]? = some x) (k : Nat) : w.frozen? ⟨x.1, k, none⟩ = false := frozen_blk (h.bl i x hx) k
end

set_option maxRecDepth 100000 in
set_option maxHeartbeats 1000000 in
theorem seesType_any {w : World} {b : Nat} {C : Cx} {s : Pp.St} (h : Rd w b C s) :
    Calls Tryz.prog 75 #[.pointer (some ⟨b, 0, none⟩)] w fun e w' => e = .returned (.bool (Pp.has C.ws s Pp.isType)) ∧ Below w.heap.size w w' := by
  have hS := hide (sees_two h Pp.wVoid Pp.wInt (by decide) (by decide) 9)
  have hF := hide (fun w' (hb : Below w.heap.size w w') => seesFresh_any (h.below hb))
  have hr : Pp.has C.ws s Pp.isType = (Pp.has C.ws s (Pp.isW2 Pp.wVoid Pp.wInt) || Pp.has C.ws s Pp.isFresh) := by
    rw [has_now C s Pp.isType rfl, has_now C s _ rfl, has_now C s Pp.isFresh rfl]; rfl
  rw [hr]
  clear h hr
  unfold Pp.wVoid Pp.wInt at *
  cases hb : Pp.has C.ws s (Pp.isW2 [118, 111, 105, 100] [105, 110, 116]) with
  | true =>
    rw [hb] at hS
    go_enter Tryz.func75, Tryz.ntmps75
    go_wp2_with (go_at_call 16; refine hS.out.mono ?_; rintro e w1 ⟨rfl, hb1⟩)
    go_ret
    exact ⟨rfl, hb1⟩
  | false =>
    rw [hb] at hS
    go_enter Tryz.func75, Tryz.ntmps75
    go_wp2_with (first | (go_at_call 16; refine hS.out.mono ?_; rintro e w1 ⟨rfl, hb1⟩) | (go_at_call 37; refine (hF.out w1 hb1).mono ?_; rintro e w2 ⟨rfl, hb2⟩))
    go_ret
    exact ⟨rfl, hb1.trans (hb2.mono hb1.size)⟩

set_option maxRecDepth 100000 in
set_option maxHeartbeats 1000000 in
theorem seesInstr_any {w : World} {b : Nat} {C : Cx} {s : Pp.St} (h : Rd w b C s) :
    Calls Tryz.prog 93 #[.pointer (some ⟨b, 0, none⟩)] w fun e w' => e = .returned (.bool (Pp.has C.ws s Pp.isInstr)) ∧ Below w.heap.size w w' := by
  have hN := hide (now_any h)
  have hO := hide (fun w' (hb : Below w.heap.size w w') => Op_any (nowT C.tk s).text w' (h.below hb).tab)
  have hr := hide (has_now C s Pp.isInstr rfl)
  have hfd := field_text
  clear h
  obtain ⟨t, ht⟩ : ∃ t, t = nowT C.tk s := ⟨_, rfl⟩
  rw [← ht] at hN hO hr
  clear ht
  unfold tokV at hN
  obtain ⟨B, hB⟩ : ∃ B, B = (Pp.opL t.text).isSome := ⟨_, rfl⟩
  rw [← hB] at hO
  have HB := hide hB
  clear hB
  go_enter Tryz.func93, Tryz.ntmps93
  go_wp2_with (first | (go_at_call 32; refine hN.out.mono ?_; rintro e w1 ⟨rfl, hb1⟩) | (go_at_call 100; refine (hO.out w1 hb1).mono ?_; rintro e w2 ⟨rfl, rfl⟩))
  go_ret
  refine ⟨?_, hb1⟩
  rw [hr.out, HB.out]
  rfl

end Go.Proofs.YtdgfidaopkcjoaaGreatDoor

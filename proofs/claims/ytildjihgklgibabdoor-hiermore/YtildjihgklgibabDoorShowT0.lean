/- What the page's Shown leans on, where the program has no writer: a type's words, instructions by their arguments. -/
import Derived.Test.YtildjihgklgibabDoorShowS0
import Derived.Test.YtildjihgklgibabDoorShowI
namespace Go.Proofs.YtildjihgklgibabDoor
open Go.RowKit
set_option linter.unusedVariables false
set_option linter.unusedSimpArgs false

namespace Pp
/-- A type's words without blanks; of what is none, none. -/
def typeT (t : Ty) : Bs := if typeB t = true then ((tyW t).map wtx).flatten else []
end Pp
namespace Sh
theorem wtx_nm (s : Pp.Bs) : Pp.wtx (Pp.nm s) = s := rfl
theorem wtx_sg (s : Pp.Bs) : Pp.wtx (Pp.sg s) = s := rfl
theorem wtx_nu (n : Int) : Pp.wtx (Pp.nu n) = Lx.intL n := rfl
theorem lt_of_blk {w : World} {k : Nat} {o : Obj} (h : w.heap[k]? = some o) : k < w.heap.size := by
  rcases Nat.lt_or_ge k w.heap.size with h1 | h1
  · exact h1
  · rw [Array.getElem?_eq_none h1] at h; cases h
theorem fz_blk {w : World} {b : Nat} {c : Array Value} {t : TypeId} (h : w.heap[b]? = some (.cells c t (0, 0))) (k : Nat) : w.frozen? ⟨b, k, none⟩ = false := by simp [World.frozen?, h]
theorem blk_put {w : World} {b : Nat} {v u : Value} {t : TypeId} (h : w.heap[b]? = some (.cells #[v] t (0, 0))) : (w.setCell ⟨b, 0, none⟩ u).heap[b]? = some (.cells #[u] t (0, 0)) := by
  have hlt := lt_of_blk h
  have h' : w.heap[b] = .cells #[v] t (0, 0) := by simpa [Array.getElem?_eq_getElem hlt] using h
  show (w.heap.modify b _)[b]? = _
  rw [Array.getElem?_eq_getElem (by simpa using hlt), Array.getElem_modify_self, h']
  rfl
theorem info_of {P : Program} {t : TypeId} {z : Option Value} {s b : Nat} (h : (P.info? t).map (fun i => (i.zero, i.size, i.bytes)) = some (z, s, b)) : ∃ i, P.info? t = some i ∧ i.zero = z ∧ i.size = s ∧ i.bytes = b := by
  cases hi : P.info? t with
  | none => rw [hi] at h; cases h
  | some i => rw [hi] at h; simp at h; exact ⟨i, rfl, h.1, h.2.1, h.2.2⟩
theorem str_sz (a : List UInt8) : (⟨a.toArray⟩ : ByteArray).size = a.length := by simp [ByteArray.size]
theorem row_at {α : Type} {W : World} {sz : Nat} {P : α → List Value → Prop} {a : Option Addr} {n c : Nat} {l : List α} (h : RowX W sz P (.slice a n c) l) {k : Nat} {x : α} (hx : l[k]? = some x) : ∃ b o, a = some ⟨b, o, none⟩ ∧ ∃ ys, P x ys ∧ ∀ wx, Below W.heap.size W wx → ∀ (j : Nat) (u : Value), ys[j]? = some u → wx.cell? ⟨b, o + k * sz + j, none⟩ = some u := by
  obtain ⟨a', c', e, hc, h⟩ := h
  injection e with e1 e2 e3
  subst e1
  rcases h with rfl | ⟨b, o, rfl, hlt, hr⟩
  · simp at hx
  · obtain ⟨ys, h1, h2⟩ := hr k x hx
    exact ⟨b, o, rfl, ys, h1, fun wx hb j u hj => (hb.cell (by exact hlt)).trans (h2 j u hj)⟩

theorem ins_cases (x : Pp.XIns) (h : Pp.insB x = true) : (0 ≤ x.op ∧ x.op < 44) ∧
    ((∃ lo hi, Pp.argsX x.op = (true, lo, hi, 0) ∧ (-2147483648 ≤ x.n ∧ x.n ≤ 2147483647) ∧ Pp.wordsT (Pp.insW x.toP) = Pp.sayL [wordL x.op] ++ (Pp.sayL [Lx.intL x.n] ++ Pp.sayL [Pp.wSemi])) ∨
     (Pp.argsX x.op = (false, 0, 0, 0) ∧ Pp.wordsT (Pp.insW x.toP) = Pp.sayL [wordL x.op] ++ Pp.sayL [Pp.wSemi]) ∨
     (Pp.argsX x.op = (false, 0, 0, 1) ∧ Pp.wordsT (Pp.insW x.toP) = Pp.sayL [wordL x.op] ++ (Pp.sayL [x.a] ++ Pp.sayL [Pp.wSemi])) ∨
     (Pp.argsX x.op = (false, 0, 0, 2) ∧ Pp.wordsT (Pp.insW x.toP) = Pp.sayL [wordL x.op] ++ (Pp.sayL [x.a] ++ (Pp.sayL [x.b] ++ Pp.sayL [Pp.wSemi])))) := by
  obtain ⟨h0, h1⟩ := (Pp.insB_iff x).1 h
  obtain ⟨op, n, a, b⟩ := x
  obtain ⟨k, rfl⟩ := Int.eq_ofNat_of_zero_le h0
  have hk : k < 44 := by have := h1.1; simpa [Pp.XIns.toP] using this
  have hw : wordL (k : Int) = Pp.opWords.getD k [] := by
    unfold wordL; rw [if_pos ⟨h0, by omega⟩]; simp
  have ha := h1.2
  simp only [Pp.XIns.toP, Int.toNat_natCast] at ha ⊢
  refine ⟨⟨h0, by omega⟩, ?_⟩
  rw [hw, Pp.argsX_shape k hk]
  unfold Pp.okArg at ha
  unfold Pp.insW Pp.argW
  simp only at ha ⊢
  rcases ha with ⟨e, c1, c2, c3, c4⟩ | ⟨e, c1, c2, c3, c4⟩ | ⟨e, c1, c2, c3, c4⟩ | ⟨e, c1, c2, c3⟩ | ⟨e, c1, c2, c3⟩ | ⟨e, c1, c2, c3⟩
  · refine .inl ⟨_, _, by rw [e]; rfl, ⟨by omega, by omega⟩, ?_⟩
    rw [e]; simp [Pp.wordsT, Pp.sayL, wtx_nm, wtx_sg, wtx_nu]
  · refine .inl ⟨_, _, by rw [e]; rfl, ⟨by omega, by omega⟩, ?_⟩
    rw [e]; simp [Pp.wordsT, Pp.sayL, wtx_nm, wtx_sg, wtx_nu]
  · refine .inl ⟨_, _, by rw [e]; rfl, ⟨by omega, by omega⟩, ?_⟩
    rw [e]; simp [Pp.wordsT, Pp.sayL, wtx_nm, wtx_sg, wtx_nu]
  · refine .inr (.inr (.inl ⟨by rw [e]; rfl, ?_⟩))
    rw [e]; simp [Pp.wordsT, Pp.sayL, wtx_nm, wtx_sg, wtx_nu]
  · refine .inr (.inr (.inr ⟨by rw [e]; rfl, ?_⟩))
    rw [e]; simp [Pp.wordsT, Pp.sayL, wtx_nm, wtx_sg, wtx_nu]
  · refine .inr (.inl ⟨by rw [e]; rfl, ?_⟩)
    rw [e]; simp [Pp.wordsT, Pp.sayL, wtx_nm, wtx_sg, wtx_nu]
end Sh
end Go.Proofs.YtildjihgklgibabDoor

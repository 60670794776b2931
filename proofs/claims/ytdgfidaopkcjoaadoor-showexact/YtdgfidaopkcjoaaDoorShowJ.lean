/- What show's writer says of words. -/
import Derived.Test.YtdgfidaopkcjoaaDoorMgB
import Derived.Maps.AppendAt
import Derived.Lib.AppendStr
import Derived.WideShapes
import Derived.Deep.RegionWith
import Derived.Deep.RegionLaw
namespace Go.Proofs.YtdgfidaopkcjoaaDoor
open Go.RowKit
set_option linter.unusedVariables false
set_option linter.unusedSimpArgs false

namespace Sh
def byV (x : UInt8) : Value := .int .u8 (x.toNat : Int)
theorem lt_of_blk {w : World} {k : Nat} {o : Obj} (h : w.heap[k]? = some o) : k < w.heap.size := by
  rcases Nat.lt_or_ge k w.heap.size with h1 | h1
  · exact h1
  · rw [Array.getElem?_eq_none h1] at h; cases h
theorem own_shape {w : World} {base e size : Nat} {v : Value} {n : Nat} {xs : List Value} (h : w.ownsRow base e size v n xs) : ∃ a cap, v = .slice a n cap := by
  rcases h.2 with ⟨rfl, rfl⟩ | ⟨g, cap, cur, rfl, _⟩
  · exact ⟨none, 0, rfl⟩
  · exact ⟨_, cap, rfl⟩
theorem own_at {w : World} {base e size : Nat} {v : Value} {n : Nat} {xs : List Value} (h : w.ownsRow base e size v n xs) (k : Nat) (hk : v.ownBlock = some k) : ∃ c, w.heap[k]? = some (.cells c e (0, 0)) := by
  rcases h.2 with ⟨rfl, _⟩ | ⟨g, cap, cur, rfl, hb, hg, r⟩
  · cases hk
  · cases hk; exact ⟨cur, hg⟩
/-- What lies below stays, and every block that is neither a writer's nor bytes. -/
structure Ke (B : Nat) (w w' : World) : Prop where
  bel : Below B w w'
  blk : ∀ (k : Nat) (c : Array Value) (e : TypeId) (f : Nat × Nat), w.heap[k]? = some (.cells c e f) → e ≠ 62 → e ≠ 5 → w'.heap[k]? = some (.cells c e f)
theorem Ke.refl (B : Nat) (w : World) : Ke B w w := ⟨Below.refl _ _, fun _ _ _ _ h _ _ => h⟩
theorem Ke.trans {B : Nat} {a b c : World} (h : Ke B a b) (k : Ke B b c) : Ke B a c := ⟨h.bel.trans k.bel, fun i x e f hx h1 h2 => k.blk i x e f (h.blk i x e f hx h1 h2) h1 h2⟩
theorem Ke.below {B : Nat} {w w' : World} (hB : B ≤ w.heap.size) (h : Below w.heap.size w w') : Ke B w w' := ⟨h.mono hB, fun k c e f hk _ _ => (h.block k (lt_of_blk hk)).trans hk⟩
theorem Ke.alloc {B : Nat} {w : World} (hB : B ≤ w.heap.size) (o : Obj) : Ke B w (w.alloc o) := Ke.below hB ((Below.refl _ _).alloc (Nat.le_refl _) _)
theorem Ke.drew (B : Nat) (w : World) : Ke B w w.drew := ⟨Below.drew (Below.refl _ _), fun _ _ _ _ h _ _ => h⟩
theorem Ke.set {B : Nat} {w : World} {b : Nat} {c : Array Value} {f : Nat × Nat} (hB : B ≤ b) (h : w.heap[b]? = some (.cells c 62 f)) (k : Nat) (u : Value) : Ke B w (w.setCell ⟨b, k, none⟩ u) :=
  ⟨(Below.refl _ _).setCell hB _, fun i x e g hi h1 h2 => by
    rw [Below.heap_setCell _ _ _ _ (fun e2 => by subst e2; rw [h] at hi; simp at hi; exact h1 hi.2.1.symm)]; exact hi⟩
theorem Ke.grown {B n : Nat} {w w' : World} {v : Value} {xs : List Value} (ho : w.ownsRow B 5 1 v n xs) (hB : B ≤ w.heap.size) (hg : w.grownBy w' v.ownBlock) : Ke B w w' := by
  refine ⟨Below.grown (Below.refl _ _) hg hB (fun k hk => (ho.lt k hk).1), fun k c e f hk h1 h2 => (hg.block k (lt_of_blk hk) (fun h => ?_)).trans hk⟩
  obtain ⟨c', hc'⟩ := own_at ho k h.symm
  rw [hc'] at hk; simp at hk; exact h2 hk.2.1.symm
theorem Ke.cell {B : Nat} {w w' : World} (h : Ke B w w') {k : Nat} {c : Array Value} {e : TypeId} {f : Nat × Nat} (hk : w.heap[k]? = some (.cells c e f)) (h1 : e ≠ 62) (h2 : e ≠ 5) (j : Nat) : w'.cell? ⟨k, j, none⟩ = c[j]? := cell_box (h.blk k c e f hk h1 h2) j
/-- A writer, and what it has written. -/
def Wr (B : Nat) (w : World) (b : Nat) (l : List UInt8) (v : Value) : Prop := B ≤ b ∧ B ≤ w.heap.size ∧ w.heap[b]? = some (.cells #[v] 62 (0, 0)) ∧ w.ownsRow B 5 1 v l.length (l.map byV)
theorem own_keep {B n : Nat} {w w' : World} {v : Value} {xs : List Value} (h : w.ownsRow B 5 1 v n xs) (hk : ∀ (k : Nat) (c : Array Value), w.heap[k]? = some (Obj.cells c 5 (0, 0)) → w'.heap[k]? = some (Obj.cells c 5 (0, 0))) : w'.ownsRow B 5 1 v n xs := by
  refine ⟨h.1, ?_⟩
  rcases h.2 with h2 | ⟨g, cap, cur, rfl, hb, hg, r⟩
  · exact .inl h2
  · exact .inr ⟨g, cap, cur, rfl, hb, hk g _ hg, r⟩
theorem Wr.below {B : Nat} {w w' : World} {b : Nat} {l : List UInt8} {v : Value} (h : Wr B w b l v) (hb : Below w.heap.size w w') : Wr B w' b l v :=
  ⟨h.1, Nat.le_trans h.2.1 hb.size, (hb.block b (lt_of_blk h.2.2.1)).trans h.2.2.1, own_keep h.2.2.2 fun k c hk => (hb.block k (lt_of_blk hk)).trans hk⟩
theorem Wr.alloc {B : Nat} {w : World} {b : Nat} {l : List UInt8} {v : Value} (h : Wr B w b l v) (o : Obj) : Wr B (w.alloc o) b l v := h.below ((Below.refl _ _).alloc (Nat.le_refl _) _)
theorem Wr.drew {B : Nat} {w : World} {b : Nat} {l : List UInt8} {v : Value} (h : Wr B w b l v) : Wr B w.drew b l v := ⟨h.1, h.2.1, h.2.2.1, own_keep h.2.2.2 fun k c hk => hk⟩
theorem Wr.cell {B : Nat} {w : World} {b : Nat} {l : List UInt8} {v : Value} (h : Wr B w b l v) : w.cell? ⟨b, 0, none⟩ = some v := cell_box h.2.2.1 0
theorem Wr.lt {B : Nat} {w : World} {b : Nat} {l : List UInt8} {v : Value} (h : Wr B w b l v) : b < w.heap.size := lt_of_blk h.2.2.1
/-- Behind an append to its row, ahead of the store: the writer as it was. -/
theorem Wr.grown {B : Nat} {w w' : World} {b : Nat} {l : List UInt8} {v : Value} (h : Wr B w b l v) (hg : w.grownBy w' v.ownBlock) : w'.heap[b]? = some (.cells #[v] 62 (0, 0)) ∧ Ke B w w' ∧ w.heap.size ≤ w'.heap.size := by
  have hk := Ke.grown h.2.2.2 h.2.1 hg
  refine ⟨(hg.block b h.lt (fun e => ?_)).trans h.2.2.1, hk, hk.bel.size⟩
  obtain ⟨c', hc'⟩ := own_at h.2.2.2 b e.symm
  rw [h.2.2.1] at hc'; simp at hc'
theorem fz_blk {w : World} {b : Nat} {c : Array Value} {t : TypeId} (h : w.heap[b]? = some (.cells c t (0, 0))) (k : Nat) : w.frozen? ⟨b, k, none⟩ = false := by simp [World.frozen?, h]
theorem blk_put {w : World} {b : Nat} {v u : Value} {t : TypeId} (h : w.heap[b]? = some (.cells #[v] t (0, 0))) : (w.setCell ⟨b, 0, none⟩ u).heap[b]? = some (.cells #[u] t (0, 0)) := by
  have hlt := lt_of_blk h
  have h' : w.heap[b] = .cells #[v] t (0, 0) := by simpa [Array.getElem?_eq_getElem hlt] using h
  show (w.heap.modify b _)[b]? = _
  rw [Array.getElem?_eq_getElem (by simpa using hlt), Array.getElem_modify_self, h']
  rfl
/-- Behind the store. -/
theorem Wr.put {B n : Nat} {w : World} {b : Nat} {l : List UInt8} {v u : Value} (hB : B ≤ b) (hS : B ≤ w.heap.size) (h : w.heap[b]? = some (.cells #[v] 62 (0, 0))) (ho : w.ownsRow B 5 1 u n (l.map byV)) (hn : n = l.length) : Wr B (w.setCell ⟨b, 0, none⟩ u) b l u := by
  subst hn
  refine ⟨hB, by simpa using hS, blk_put h, own_keep ho fun k c hk => ?_⟩
  rw [Below.heap_setCell _ _ _ _ (fun e => by subst e; rw [h] at hk; simp at hk)]; exact hk
theorem info_of {P : Program} {t : TypeId} {z : Option Value} {s b : Nat} (h : (P.info? t).map (fun i => (i.zero, i.size, i.bytes)) = some (z, s, b)) : ∃ i, P.info? t = some i ∧ i.zero = z ∧ i.size = s ∧ i.bytes = b := by
  cases hi : P.info? t with
  | none => rw [hi] at h; cases h
  | some i => rw [hi] at h; simp at h; exact ⟨i, rfl, h.1, h.2.1, h.2.2⟩
theorem str_sz (a : List UInt8) : (⟨a.toArray⟩ : ByteArray).size = a.length := by simp [ByteArray.size]
end Sh

set_option maxRecDepth 100000 in
set_option maxHeartbeats 1000000 in
theorem either_any (b : Bool) (s t : ByteArray) (w : World) :
    Calls Tryd.prog 36 #[.bool b, .string s, .string t] w fun e w' => e = .returned (.string (if b = true then s else t)) ∧ w' = w := by
  go_enter Tryd.func36, Tryd.ntmps36
  cases b with
  | false =>
    go_wp2_with fail
    go_ret
    exact ⟨rfl, rfl⟩
  | true =>
    go_wp2_with fail
    go_ret
    exact ⟨rfl, rfl⟩

set_option maxRecDepth 100000 in
set_option maxHeartbeats 1000000 in
theorem behind_any (s : List UInt8) (w : World) :
    Calls Tryd.prog 57 #[.string ⟨s.toArray⟩] w fun e w' => e = .returned (.int .u8 ((Pp.behL s).toNat : Int)) ∧ w' = w := by
  by_cases h1 : s = [123]
  · subst h1
    go_enter Tryd.func57, Tryd.ntmps57
    go_wp2_with fail
    go_ret
    exact ⟨rfl, rfl⟩
  by_cases h2 : s = [125]
  · subst h2
    go_enter Tryd.func57, Tryd.ntmps57
    go_wp2_with fail
    go_ret
    exact ⟨rfl, rfl⟩
  by_cases h3 : s = [59]
  · subst h3
    go_enter Tryd.func57, Tryd.ntmps57
    go_wp2_with fail
    go_ret
    exact ⟨rfl, rfl⟩
  have hR : Hid (Pp.behL s = 32) := hide (by unfold Pp.behL; exact if_neg (fun h => h.elim h1 (fun h => h.elim h2 h3)))
  have e1 : (s == [123]) = false := by simpa using h1
  have e2 : (s == [125]) = false := by simpa using h2
  have e3 : (s == [59]) = false := by simpa using h3
  go_enter Tryd.func57, Tryd.ntmps57
  go_wp2_with fail
  go_ret
  exact ⟨by rw [hR.out]; rfl, rfl⟩

end Go.Proofs.YtdgfidaopkcjoaaDoor

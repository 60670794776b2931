/- What the laws of this seat lean on: 1 texts. -/
import Derived.Test.YtbbbnciejmdpfabGreatDoorPkBc
set_option maxRecDepth 100000
set_option maxHeartbeats 64000000
set_option linter.unusedVariables false
set_option linter.unusedSimpArgs false
namespace Go.Proofs.YtbbbnciejmdpfabGreatDoor
open Go.RowKit
namespace Ow
def setCells (w : World) (g : Nat) : Nat -> List Value -> World
 | _, [] => w
 | off, u :: zs => setCells (w.setCell ⟨g, off, none⟩ u) g (off + 1) zs
def setLL : List Value -> Nat -> List Value -> List Value
 | ys, _, [] => ys
 | ys, off, u :: zs => setLL (ys.set off u) (off + 1) zs
theorem setLL_over : ∀ (zs p a b : List Value), a.length = zs.length -> setLL (p ++ (a ++ b)) p.length zs = p ++ (zs ++ b)
 | [], p, a, b, h => by have : a = [] := List.length_eq_zero_iff.1 h; subst this; rfl
 | u :: zs, p, a, b, h => by
   cases a with
   | nil => cases h
   | cons x a =>
     have h' : a.length = zs.length := by simpa using h
     show setLL ((p ++ (x :: a ++ b)).set p.length u) (p.length + 1) zs = _; have e : (p ++ (x :: a ++ b)).set p.length u = (p ++ [u]) ++ (a ++ b) := by simp
     rw [e]; have := setLL_over zs (p ++ [u]) a b h'; rw [List.length_append, List.length_singleton] at this; rw [this]; simp
theorem setLL_skip : ∀ (zs a b : List Value) (k : Nat), setLL (a ++ b) (a.length + k) zs = a ++ setLL b k zs
 | [], a, b, k => rfl
 | u :: zs, a, b, k => by
   show setLL ((a ++ b).set (a.length + k) u) (a.length + k + 1) zs = a ++ setLL (b.set k u) (k + 1) zs; rw [List.set_append_right _ _ (Nat.le_add_right _ _), Nat.add_sub_cancel_left]; exact setLL_skip zs a (b.set k u) (k + 1)
theorem len_setLL : ∀ (zs ys : List Value) (k : Nat), (setLL ys k zs).length = ys.length
 | [], ys, k => rfl
 | u :: zs, ys, k => by show (setLL (ys.set k u) (k + 1) zs).length = _; rw [len_setLL zs]; simp
theorem take_setLL : ∀ (zs ys : List Value) (k n : Nat), (setLL ys k zs).take n = setLL (ys.take n) k zs
 | [], ys, k, n => rfl
 | u :: zs, ys, k, n => by
   show (setLL (ys.set k u) (k + 1) zs).take n = setLL ((ys.take n).set k u) (k + 1) zs; rw [take_setLL zs, List.take_set]
theorem Flat.put {α : Type} {P : α -> List Value -> Prop} {sz : Nat} (hs : Shp P sz) {x : α} {zs : List Value} (hp : P x zs) : ∀ {l : List α} {ys : List Value} (i : Nat), Flat P l ys -> i < l.length -> Flat P (l.set i x) (setLL ys (i * sz) zs)
 | [], _, i, _, h => absurd h (Nat.not_lt_zero _)
 | y :: l, _, 0, ⟨a, b, e, hx, hl⟩, _ => by
   subst e; have h1 := setLL_over zs [] a b (by rw [(hs _ _ hx).1, (hs _ _ hp).1])
   rw [Nat.zero_mul]; rw [List.nil_append, List.nil_append] at h1; show Flat P (x :: l) (setLL (a ++ b) 0 zs); have h2 : setLL (a ++ b) 0 zs = zs ++ b := h1; rw [h2]; exact ⟨zs, b, rfl, hp, hl⟩
 | y :: l, _, i + 1, ⟨a, b, e, hx, hl⟩, h => by
   subst e; have ha := (hs _ _ hx).1; rw [show (i + 1) * sz = a.length + i * sz from by rw [ha, Nat.succ_mul, Nat.add_comm], setLL_skip]
   exact ⟨a, _, rfl, hx, Flat.put hs hp i hl (by simpa using h)⟩
theorem blk_setCells : ∀ (zs : List Value) {w : World} {g : Nat} {c : Array Value} {t : TypeId} {f : Nat × Nat} (off : Nat), w.heap[g]? = some (.cells c t f) -> ∃ c', (setCells w g off zs).heap[g]? = some (.cells c' t f) /\ c'.size = c.size /\ c'.toList = setLL c.toList off zs
 | [], w, g, c, t, f, off, h => ⟨c, h, rfl, rfl⟩
 | u :: zs, w, g, c, t, f, off, h => by
   obtain ⟨c', h1, h2, h3⟩ := blk_setCells zs (off + 1) (blk_put h off u); exact ⟨c', h1, by rw [h2]; simp, by rw [h3, Array.toList_setIfInBounds]; rfl⟩
theorem kx_setCells : ∀ (zs : List Value) {w : World} {g : Nat} {t : TypeId} (off : Nat), Ty w g t -> Kx t w (setCells w g off zs)
 | [], w, g, t, off, h => Kx.refl _ _
 | u :: zs, w, g, t, off, h => (Kx.set h off u).trans (kx_setCells zs (off + 1) (h.set g off u))
theorem bel_setCells : ∀ (zs : List Value) (w : World) {g b : Nat} (off : Nat), b <= g -> Below b w (setCells w g off zs)
 | [], w, g, b, off, h => Below.refl _ _
 | u :: zs, w, g, b, off, h => ((Below.refl b w).setCell h u).trans (bel_setCells zs _ (off + 1) h)
section
variable {α β : Type} {P : α -> List Value -> Prop} {Q : β -> List Value -> Prop} {sz base e : Nat} {w : World} {v : Value} {l : List α}
theorem OwnX.put {g n c : Nat} (h : OwnX w base e sz P (.slice (some ⟨g, 0, none⟩) n c) l) (hs : Shp P sz) {i : Nat} {x : α} {zs : List Value} (hi : i < l.length) (hp : P x zs) : OwnX (setCells w g (i * sz) zs) base e sz P (.slice (some ⟨g, 0, none⟩) n c) (l.set i x) := by
 obtain ⟨news, hf, h1, h2⟩ := h
 rcases h2 with ⟨e0, _⟩ | ⟨g', cap, cur, e0, hb, hg, hnc, hm, hcs, htk⟩
 · cases e0
 · cases e0
   obtain ⟨c', k1, k2, k3⟩ := blk_setCells zs (i * sz) hg; refine ⟨setLL news (i * sz) zs, hf.put hs hp i hi, by rw [len_setLL, h1, List.length_set], .inr ⟨g, c, c', by rw [List.length_set], hb, k1, by rw [List.length_set]; exact hnc, hm, by rw [k2, hcs], ?_⟩⟩
   rw [k3, take_setLL, List.length_set, htk]
theorem OwnX.map (h : OwnX w base e sz P v l) (f : α -> β) (hq : ∀ x ys, P x ys -> Q (f x) ys) : OwnX w base e sz Q v (l.map f) := by
 obtain ⟨news, hf, h⟩ := h
 have key : ∀ {l : List α} {ys : List Value}, Flat P l ys -> Flat Q (l.map f) ys := by
  intro l
  induction l with
  | nil => intro ys h; exact h
  | cons x l ih => rintro ys ⟨a, b, e, hx, hl⟩; exact ⟨a, b, e, hq x a hx, ih hl⟩
 exact ⟨news, key hf, by rw [List.length_map]; exact h⟩
theorem OwnX.cells (h : OwnX w base e sz P v l) (hs : Shp P sz) (h0 : 0 < l.length) : ∃ g c cur, v = .slice (some ⟨g, 0, none⟩) l.length c /\ base <= g /\ w.heap[g]? = some (.cells cur e (0, 0)) /\ ∀ (k : Nat) (x : α), l[k]? = some x -> ∃ ys, P x ys /\ ∀ (j : Nat) (u : Value), ys[j]? = some u -> w.cell? ⟨g, k * sz + j, none⟩ = some u := by
 have hr := h.row hs fun _ _ h => h; obtain ⟨news, hf, h1, h2⟩ := h
 rcases h2 with ⟨rfl, h2⟩ | ⟨g, cap, cur, rfl, hb, hg, hnc, hm, hcs, htk⟩
 · omega
 · refine ⟨g, cap, cur, rfl, hb, hg, fun k x hx => ?_⟩
   obtain ⟨b', o', e', ys, h3, h4⟩ := row_at hr hx; cases e'; refine ⟨ys, h3, fun j u hj => ?_⟩; have := h4 w (Below.refl _ _) j u hj
   rwa [Nat.zero_add] at this
end
def MthB (w wp : World) (base : Nat) (x : Bool × Pp.XMth) (ys : List Value) : Prop := if x.1 = true then MthO w base x.2 ys else MthX wp x.2 ys
theorem MthB.on {w w' wp : World} {base : Nat} {x : Bool × Pp.XMth} {ys : List Value} (h : MthB w wp base x ys) (hb : Below w.heap.size w w') : MthB w' wp base x ys := by
 unfold MthB at h ⊢
 split at h
 · rename_i hx; rw [if_pos hx]; exact h.on hb (Nat.le_refl _)
 · rename_i hx; rw [if_neg hx]; exact h
theorem MthB.kx {t : TypeId} {w w' wp : World} {base : Nat} {x : Bool × Pp.XMth} {ys : List Value} (h : MthB w wp base x ys) (hk : Kx t w w') (h1 : 36 ≠ t) (h2 : 50 ≠ t) (h3 : 52 ≠ t) : MthB w' wp base x ys := by
 unfold MthB at h ⊢
 split at h
 · rename_i hx; rw [if_pos hx]; exact h.kx hk h1 h2 h3
 · rename_i hx; rw [if_neg hx]; exact h
theorem shp_mthb {w wp : World} {base : Nat} : Shp (MthB w wp base) 9 := by
 intro x ys h; unfold MthB at h
 split at h
 · exact shp_mth _ _ h
 · exact shp_mthx wp _ _ h
def flags (ms : List Pp.XMth) (k : Nat) : List (Bool × Pp.XMth) := (ms.take k).map (fun m => (true, m)) ++ (ms.drop k).map (fun m => (false, m))
theorem flags_len (ms : List Pp.XMth) (k : Nat) : (flags ms k).length = ms.length := by
 unfold flags; rw [List.length_append, List.length_map, List.length_map, List.length_take, List.length_drop]; omega
theorem flags_at {ms : List Pp.XMth} {k : Nat} {m : Pp.XMth} (h : ms[k]? = some m) : (flags ms k)[k]? = some (false, m) := by
 have hk := (List.getElem?_eq_some_iff.1 h).1; unfold flags; rw [List.getElem?_append_right (by simp; omega)]
 simp only [List.length_map, List.length_take, List.getElem?_map, List.getElem?_drop]; rw [show k + (k - min k ms.length) = k from by omega, h]
 rfl
theorem flags_step {ms : List Pp.XMth} {k : Nat} {m : Pp.XMth} (h : ms[k]? = some m) : (flags ms k).set k (true, m) = flags ms (k + 1) := by
 have hk := (List.getElem?_eq_some_iff.1 h).1; unfold flags; rw [List.set_append_right _ _ (by simp; omega)]
 rw [List.take_add_one, h]; rw [List.drop_eq_getElem_cons hk]; simp only [List.length_map, List.length_take, List.map_append, List.map_cons]; rw [show k - min k ms.length = 0 from by omega]
 simp
theorem flags_end {ms : List Pp.XMth} {k : Nat} (h : ms.length <= k) : (flags ms k).map Prod.snd = ms /\ ∀ x ∈ flags ms k, x.1 = true := by
 unfold flags; rw [List.take_of_length_le h, List.drop_of_length_le h]; refine ⟨by simp [Function.comp_def], ?_⟩
 intro x hx; simp at hx; obtain ⟨m, _, rfl⟩ := hx
 rfl
theorem OwnX.done {w wp : World} {base e : Nat} {v : Value} {ms : List Pp.XMth} {k : Nat} (h : OwnX w base e 9 (MthB w wp base) v (flags ms k)) (hk : ms.length <= k) : OwnX w base e 9 (MthO w base) v ms := by
 obtain ⟨h1, h2⟩ := flags_end hk; obtain ⟨news, hf, h⟩ := h
 have key : ∀ {l : List (Bool × Pp.XMth)} {ys : List Value}, (∀ x ∈ l, x.1 = true) -> Flat (MthB w wp base) l ys -> Flat (MthO w base) (l.map Prod.snd) ys := by
  intro l
  induction l with
  | nil => intro ys _ h; exact h
  | cons x l ih =>
    rintro ys hx ⟨a, b, e, hp, hl⟩; refine ⟨a, b, e, ?_, ih (fun y hy => hx y (by simp [hy])) hl⟩
    unfold MthB at hp; rw [if_pos (hx x (by simp))] at hp
    exact hp
 have h3 := key h2 hf; rw [h1] at h3; refine ⟨news, h3, ?_⟩; rw [flags_len] at h; exact h
end Ow
end Go.Proofs.YtbbbnciejmdpfabGreatDoor

/- The reader in memory: what its block holds; what stays when other blocks change. -/
import Derived.Test.YtdgfidaopkcjoaaGreatDoorMgF
import Derived.Test.YtdgfidaopkcjoaaGreatDoorMgA
namespace Go.Proofs.YtdgfidaopkcjoaaGreatDoor
open Go.RowKit
set_option linter.unusedVariables false
set_option linter.unusedSimpArgs false

/-- As before, but for the blocks in S and for new ones. -/
structure Fr (S : List Nat) (w w' : World) : Prop where
  os : w'.os = w.os
  tape : w'.tape = w.tape
  output : w'.output = w.output
  size : w.heap.size ≤ w'.heap.size
  block : ∀ k, k < w.heap.size → k ∉ S → w'.heap[k]? = w.heap[k]?

theorem Fr.refl (S : List Nat) (w : World) : Fr S w w := ⟨rfl, rfl, rfl, Nat.le_refl _, fun _ _ _ => rfl⟩
theorem Fr.trans' {S S' : List Nat} {a b c : World} (h : Fr S a b) (k : Fr S' b c) (hs : ∀ x ∈ S', x ∈ S ∨ a.heap.size ≤ x) : Fr S a c :=
  ⟨k.os.trans h.os, k.tape.trans h.tape, k.output.trans h.output, Nat.le_trans h.size k.size, fun i hi hn => (k.block i (Nat.lt_of_lt_of_le hi h.size) (fun hm => by rcases hs i hm with h1 | h1; exact hn h1; omega)).trans (h.block i hi hn)⟩
theorem Fr.trans {S : List Nat} {a b c : World} (h : Fr S a b) (k : Fr S b c) : Fr S a c := h.trans' k fun x hx => .inl hx
theorem Fr.mono {S S' : List Nat} {a b : World} (h : Fr S a b) (hs : ∀ x ∈ S, x ∈ S') : Fr S' a b := ⟨h.os, h.tape, h.output, h.size, fun k hk hn => h.block k hk fun hm => hn (hs k hm)⟩
theorem Fr.ofBelow {S : List Nat} {a b : World} (h : Below a.heap.size a b) : Fr S a b := ⟨h.os, h.tape, h.output, h.size, fun k hk _ => h.block k hk⟩
theorem Fr.below {S : List Nat} {a b : World} {B : Nat} (h : Fr S a b) (hB : B ≤ a.heap.size) (hs : ∀ x ∈ S, B ≤ x) : Below B a b :=
  ⟨h.os, h.tape, h.output, h.size, fun k hk => h.block k (by omega) (fun hm => by have := hs k hm; omega)⟩
theorem Fr.alloc {S : List Nat} {a w : World} (h : Fr S a w) (o : Obj) : Fr S a (w.alloc o) :=
  ⟨h.os, h.tape, h.output, Nat.le_trans h.size (by simp), fun k hk hn => (Below.heap_alloc _ _ _ (Nat.lt_of_lt_of_le hk h.size)).trans (h.block k hk hn)⟩
theorem Fr.setCell {S : List Nat} {a w : World} (h : Fr S a w) {p : Addr} (hp : p.block ∈ S ∨ a.heap.size ≤ p.block) (u : Value) : Fr S a (w.setCell p u) :=
  ⟨h.os, h.tape, h.output, Nat.le_trans h.size (by simp [World.setCell]), fun k hk hn => (Below.heap_setCell _ _ _ _ (fun e => by subst e; rcases hp with h1 | h1; exact hn h1; omega)).trans (h.block k hk hn)⟩
theorem Fr.grown {S : List Nat} {a w w' : World} {row : Option Nat} (h : Fr S a w) (hg : w.grownBy w' row) (hr : ∀ k, row = some k → k ∈ S ∨ a.heap.size ≤ k) : Fr S a w' :=
  ⟨hg.os.trans h.os, hg.tape.trans h.tape, hg.output.trans h.output, Nat.le_trans h.size hg.size, fun k hk hn => (hg.block k (Nat.lt_of_lt_of_le hk h.size) (fun e => by rcases hr k e.symm with h1 | h1; exact hn h1; omega)).trans (h.block k hk hn)⟩

/-- A row that is kept: no block of S is of its type. -/
theorem own_fr {S : List Nat} {w w' : World} {base e size : Nat} {v : Value} {n : Nat} {xs : List Value} (h : w.ownsRow base e size v n xs) (hf : Fr S w w')
    (hs : ∀ x ∈ S, x < base ∨ ∀ c f, w.heap[x]? ≠ some (.cells c e f)) : w'.ownsRow base e size v n xs := by
  refine ⟨h.1, ?_⟩
  rcases h.2 with h2 | ⟨g, cap, cur, rfl, hb, hg, r⟩
  · exact .inl h2
  · refine .inr ⟨g, cap, cur, rfl, hb, ?_, r⟩
    rw [hf.block g (Array.getElem?_eq_some_iff.1 hg).1 (fun hm => by rcases hs g hm with h1 | h1; omega; exact h1 _ _ hg)]
    exact hg
theorem own_base {w : World} {base base' e size : Nat} {v : Value} {n : Nat} {xs : List Value} (h : w.ownsRow base e size v n xs) (hb : base' ≤ base) : w.ownsRow base' e size v n xs := by
  refine ⟨h.1, ?_⟩
  rcases h.2 with h2 | ⟨g, cap, cur, rfl, hg, r⟩
  · exact .inl h2
  · exact .inr ⟨g, cap, cur, rfl, Nat.le_trans hb hg, r⟩

def strV (l : List UInt8) : Value := .string ⟨l.toArray⟩
/-- The two tables of words. -/
structure TabS (w : World) : Prop where
  words : ∀ i t, Pp.opWords[i]? = some t → w.cell? ⟨1, i, none⟩ = some (strV t)
  kept : ∀ i t, Pp.keptWords[i]? = some t → w.cell? ⟨0, i, none⟩ = some (strV t)
theorem TabS.lt {w : World} (h : TabS w) : 2 ≤ w.heap.size := by
  have h1 := World.block_lt_of_cell? w _ (h.kept 0 _ rfl)
  have h0 := World.block_lt_of_cell? w _ (h.words 0 _ rfl)
  simp at h1 h0
  omega
theorem TabS.fr {S : List Nat} {w w' : World} (h : TabS w) (hf : Fr S w w') (hs : ∀ x ∈ S, 2 ≤ x) : TabS w' := by
  have hl := h.lt
  have hb : ∀ g, g < 2 → w'.heap[g]? = w.heap[g]? := fun g hg => hf.block g (by omega) (fun hm => by have := hs g hm; omega)
  exact ⟨fun i t ht => (World.cell?_of_block (w := w) (hb 1 (by decide))).trans (h.words i t ht), fun i t ht => (World.cell?_of_block (w := w) (hb 0 (by decide))).trans (h.kept i t ht)⟩

structure Cx where
  tk : List Lx.Tok
  vw : Value
  en : Nat
  pl : Nat
def Cx.ws (C : Cx) : List Pp.Wd := C.tk.map Pp.wd
def noTok : Lx.Tok := ⟨0, [], 0, 0⟩
def nowT (tk : List Lx.Tok) (s : Pp.St) : Lx.Tok := if s.e = 0 then tk.getD s.i noTok else noTok
def atC (C : Cx) (s : Pp.St) : Nat := if s.e = 0 then 0 else Pp.place C.tk C.pl s.i
def rdCells (C : Cx) (s : Pp.St) : Array Value := #[C.vw, .int .i64 s.i, .int .i64 C.en, .int .i64 (atC C s), .int .i64 s.e]

structure Rd (w : World) (b : Nat) (C : Cx) (s : Pp.St) : Prop where
  blk : w.heap[b]? = some (.cells (rdCells C s) 62 (0, 0))
  wds : w.ownsRow 0 85 4 C.vw C.tk.length (toksCells C.tk)
  hi : s.i ≤ C.tk.length
  hn : C.tk.length ≤ 6000
  hpl : s.e = 0 → C.pl = C.en
  tab : TabS w
  hb : 2 ≤ b

theorem Rd.lt {w : World} {b : Nat} {C : Cx} {s : Pp.St} (h : Rd w b C s) : b < w.heap.size := (Array.getElem?_eq_some_iff.1 h.blk).1
theorem Rd.fr {S : List Nat} {w w' : World} {b : Nat} {C : Cx} {s : Pp.St} (h : Rd w b C s) (hf : Fr S w w') (hs : ∀ x ∈ S, 2 ≤ x ∧ x ≠ b ∧ ∀ c f, w.heap[x]? ≠ some (.cells c 85 f)) : Rd w' b C s :=
  ⟨(hf.block b h.lt (fun hm => (hs b hm).2.1 rfl)).trans h.blk, own_fr h.wds hf (fun x hx => .inr (hs x hx).2.2), h.hi, h.hn, h.hpl, h.tab.fr hf (fun x hx => (hs x hx).1), h.hb⟩
theorem Rd.below {w w' : World} {b : Nat} {C : Cx} {s : Pp.St} (h : Rd w b C s) (hb : Below w.heap.size w w') : Rd w' b C s :=
  h.fr (S := []) (Fr.ofBelow hb) (fun x hx => by cases hx)
theorem Rd.alloc {w : World} {b : Nat} {C : Cx} {s : Pp.St} (h : Rd w b C s) (o : Obj) : Rd (w.alloc o) b C s :=
  h.below ((Below.refl _ _).alloc (Nat.le_refl _) _)
theorem cell_blk {w : World} {b : Nat} {c : Array Value} {t : TypeId} {f : Nat × Nat} (h : w.heap[b]? = some (.cells c t f)) (k : Nat) : w.cell? ⟨b, k, none⟩ = c[k]? := cell_of_row w b k c t f h
theorem frozen_blk {w : World} {b : Nat} {c : Array Value} {t : TypeId} (h : w.heap[b]? = some (.cells c t (0, 0))) (k : Nat) : w.frozen? ⟨b, k, none⟩ = false := by simp [World.frozen?, h]
theorem blk_set {w : World} {b : Nat} {c : Array Value} {t : TypeId} (h : w.heap[b]? = some (.cells c t (0, 0))) (k : Nat) (hk : k < c.size) (u : Value) : (w.setCell ⟨b, k, none⟩ u).heap[b]? = some (.cells (c.set k u hk) t (0, 0)) := by
  have hlt := lt_of_block h
  have h' : w.heap[b] = .cells c t (0, 0) := by simpa [Array.getElem?_eq_getElem hlt] using h
  show (w.heap.modify b _)[b]? = _
  rw [Array.getElem?_eq_getElem (by simpa using hlt), Array.getElem_modify_self, h']
  simp [Array.setIfInBounds, hk]

section cells
variable {w : World} {b : Nat} {C : Cx} {s : Pp.St}
theorem Rd.c0 (h : Rd w b C s) : w.cell? ⟨b, 0, none⟩ = some C.vw := by rw [cell_blk h.blk]; rfl
theorem Rd.c1 (h : Rd w b C s) : w.cell? ⟨b, 1, none⟩ = some (.int .i64 s.i) := by rw [cell_blk h.blk]; rfl
theorem Rd.c2 (h : Rd w b C s) : w.cell? ⟨b, 2, none⟩ = some (.int .i64 C.en) := by rw [cell_blk h.blk]; rfl
theorem Rd.c3 (h : Rd w b C s) : w.cell? ⟨b, 3, none⟩ = some (.int .i64 (atC C s)) := by rw [cell_blk h.blk]; rfl
theorem Rd.c4 (h : Rd w b C s) : w.cell? ⟨b, 4, none⟩ = some (.int .i64 s.e) := by rw [cell_blk h.blk]; rfl
theorem Rd.fz (h : Rd w b C s) (k : Nat) : w.frozen? ⟨b, k, none⟩ = false := frozen_blk h.blk k
theorem Rd.step (h : Rd w b C s) (hl : s.i < C.tk.length) (he : s.e = 0) : Rd (w.setCell ⟨b, 1, none⟩ (.int .i64 ((s.i : Int) + 1))) b C s.adv := by
  have hf : Fr [b] w (w.setCell ⟨b, 1, none⟩ (.int .i64 ((s.i : Int) + 1))) := (Fr.refl _ _).setCell (.inl (by simp)) _
  refine ⟨?_, own_fr h.wds hf (fun x hx => .inr fun c f hc => ?_), by show s.i + 1 ≤ _; omega, h.hn, h.hpl, h.tab.fr hf (fun x hx => by simp at hx; subst hx; exact h.hb), h.hb⟩
  · rw [blk_set h.blk 1 (by simp [rdCells])]
    simp [rdCells, Pp.St.adv, atC, he]
  · simp at hx; subst hx; rw [h.blk] at hc; simp at hc
theorem Rd.toFail (h : Rd w b C s) (k : Int) (hk : k ≠ 0) (he : s.e = 0) (w' : World) (hf : Fr [b] w w') (hblk : w'.heap[b]? = some (.cells #[C.vw, .int .i64 s.i, .int .i64 C.en, .int .i64 (Pp.place C.tk C.en s.i), .int .i64 k] 62 (0, 0))) : Rd w' b C (Pp.failS s k) := by
  have e : Pp.failS s k = ⟨s.i, k⟩ := by simp [Pp.failS, he]
  rw [e]
  refine ⟨?_, own_fr h.wds hf (fun x hx => .inr fun c f hc => ?_), h.hi, h.hn, fun hz => absurd hz hk, h.tab.fr hf (fun x hx => by simp at hx; subst hx; exact h.hb), h.hb⟩
  · rw [hblk]; simp [rdCells, atC, hk, h.hpl he]
  · simp at hx; subst hx; rw [h.blk] at hc; simp at hc
end cells

theorem has_now (C : Cx) (s : Pp.St) (q : Pp.Wd → Bool) (hq : q (Pp.wd noTok) = false) : Pp.has C.ws s q = q (Pp.wd (nowT C.tk s)) := by
  unfold Pp.has Pp.cur nowT Cx.ws
  by_cases he : s.e = 0
  · rw [if_pos he, if_pos he, List.getElem?_map]
    rcases Nat.lt_or_ge s.i C.tk.length with h | h
    · simp [List.getD, h]
    · simp [List.getD, h, hq]
  · rw [if_neg he, if_neg he]; simp [hq]
def tokV (t : Lx.Tok) : Value := .agg #[.int .i64 t.kind, .string ⟨t.text.toArray⟩, .int .i64 t.num, .int .i64 t.pos]
theorem toksCells_get : ∀ (l : List Lx.Tok) (j c : Nat) (t : Lx.Tok), l[j]? = some t → c < 4 → (toksCells l)[j * 4 + c]? = (tokCells t)[c]?
  | [], j, c, t, h, _ => by simp at h
  | x :: r, 0, c, t, h, hc => by
    simp at h; subst h
    show (tokCells x ++ toksCells r)[0 * 4 + c]? = _
    rw [Nat.zero_mul, Nat.zero_add, List.getElem?_append_left (by exact hc)]
  | x :: r, j + 1, c, t, h, hc => by
    show (tokCells x ++ toksCells r)[(j + 1) * 4 + c]? = _
    rw [List.getElem?_append_right (by show 4 ≤ _; omega), show (j + 1) * 4 + c - (tokCells x).length = j * 4 + c from by show (j + 1) * 4 + c - 4 = _; omega]
    exact toksCells_get r j c t (by simpa using h) hc
theorem Rd.shape {w : World} {b : Nat} {C : Cx} {s : Pp.St} (h : Rd w b C s) : ∃ a cap, C.vw = .slice a C.tk.length cap := by
  rcases h.wds.2 with ⟨h1, h2⟩ | ⟨g, cap, cur, h1, _⟩
  · exact ⟨none, 0, by rw [h1, h2]⟩
  · exact ⟨_, cap, h1⟩
theorem Rd.tok {w : World} {b : Nat} {C : Cx} {s : Pp.St} (h : Rd w b C s) (i : Nat) (t : Lx.Tok) (ht : C.tk[i]? = some t) : ∃ g cap, C.vw = .slice (some ⟨g, 0, none⟩) C.tk.length cap ∧ C.tk.length ≤ cap ∧ cap ≤ maxLen ∧
    w.cell? ⟨g, i * 4, none⟩ = some (.int .i64 t.kind) ∧ w.cell? ⟨g, i * 4 + 1, none⟩ = some (.string ⟨t.text.toArray⟩) ∧ w.cell? ⟨g, i * 4 + 2, none⟩ = some (.int .i64 t.num) ∧ w.cell? ⟨g, i * 4 + 3, none⟩ = some (.int .i64 t.pos) := by
  have hl : i < C.tk.length := by
    rcases Nat.lt_or_ge i C.tk.length with h | h
    · exact h
    · rw [List.getElem?_eq_none h] at ht; cases ht
  have hx := h.wds
  rcases h.wds.2 with ⟨_, h2⟩ | ⟨g, cap, cur, h1, _, hg, hnc, hcm, _, _⟩
  · omega
  · refine ⟨g, cap, h1, hnc, hcm, ?_⟩
    have hc : ∀ c, c < 4 → w.cell? ⟨g, i * 4 + c, none⟩ = (tokCells t)[c]? := by
      intro c hc
      rw [h1] at hx
      rw [hx.cellAt (i * 4 + c) (by omega), toksCells_get _ _ _ _ ht hc]
    exact ⟨hc 0 (by decide), hc 1 (by decide), hc 2 (by decide), hc 3 (by decide)⟩

end Go.Proofs.YtdgfidaopkcjoaaGreatDoor

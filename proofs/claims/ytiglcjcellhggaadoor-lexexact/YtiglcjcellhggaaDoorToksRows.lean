/- Tokens in rows that the call makes. -/
import Derived.Test.YtiglcjcellhggaaDoorOpenToks
import Derived.Maps.AppendAt
namespace Go.Proofs.YtiglcjcellhggaaDoor
open Go.RowKit
set_option linter.unusedVariables false
set_option linter.unusedSimpArgs false

def aCells (t : Lx.ATok) : List Value := [.int .i64 t.kind, .string ⟨t.text.toArray⟩, .int .i64 t.num, .int .i64 t.pos]
def asCells (l : List Lx.ATok) : List Value := l.flatMap aCells
theorem asCells_len (l : List Lx.ATok) : (asCells l).length = l.length * 4 := by
  induction l with
  | nil => rfl
  | cons t r ih =>
    show (aCells t ++ asCells r).length = _
    rw [List.length_append, ih, List.length_cons]
    show 4 + _ = _
    omega
theorem asCells_app (a b : List Lx.ATok) : asCells (a ++ b) = asCells a ++ asCells b := by simp [asCells]
theorem asCells_get : ∀ (l : List Lx.ATok) (j c : Nat) (t : Lx.ATok), l[j]? = some t → c < 4 → (asCells l)[j * 4 + c]? = (aCells t)[c]?
  | [], j, c, t, h, _ => by simp at h
  | x :: r, 0, c, t, h, hc => by
    simp at h; subst h
    show (aCells x ++ asCells r)[0 * 4 + c]? = _
    rw [Nat.zero_mul, Nat.zero_add, List.getElem?_append_left (by exact hc)]
  | x :: r, j + 1, c, t, h, hc => by
    show (aCells x ++ asCells r)[(j + 1) * 4 + c]? = _
    rw [List.getElem?_append_right (by show 4 ≤ _; omega), show (j + 1) * 4 + c - (aCells x).length = j * 4 + c from by show (j + 1) * 4 + c - 4 = _; omega]
    exact asCells_get r j c t (by simpa using h) hc
theorem asCells_one (l : List Lx.ATok) : ∀ u ∈ asCells l, u.oneCell' = true := by
  intro u hu
  obtain ⟨t, _, ht⟩ := List.mem_flatMap.1 hu
  simp [aCells] at ht
  rcases ht with rfl | rfl | rfl | rfl <;> rfl
theorem toks_news {w : World} {b off : Nat} {ts : List Lx.ATok} (h : ToksAt w b off ts) : ∀ j u, (asCells ts)[j]? = some u → w.cell? ((⟨b, off, none⟩ : Addr).add j) = some u := by
  intro j u hj
  have hl : j < ts.length * 4 := by
    rcases Nat.lt_or_ge j (ts.length * 4) with h | h
    · exact h
    · rw [List.getElem?_eq_none (by rw [asCells_len]; exact h)] at hj; cases hj
  have hq : j / 4 < ts.length := by omega
  obtain ⟨h0, h1, h2, h3⟩ := h (j / 4) _ (List.getElem?_eq_getElem hq)
  have hg := asCells_get ts (j / 4) (j % 4) _ (List.getElem?_eq_getElem hq) (by omega)
  rw [show j / 4 * 4 + j % 4 = j from by omega, hj] at hg
  rw [Go.WideShapes.add_plain]
  have hc : j % 4 = 0 ∨ j % 4 = 1 ∨ j % 4 = 2 ∨ j % 4 = 3 := by omega
  rcases hc with hc | hc | hc | hc
  · rw [hc] at hg; rw [show off + j = off + j / 4 * 4 from by omega, h0]; exact hg.symm
  · rw [hc] at hg; rw [show off + j = off + j / 4 * 4 + 1 from by omega, h1]; exact hg.symm
  · rw [hc] at hg; rw [show off + j = off + j / 4 * 4 + 2 from by omega, h2]; exact hg.symm
  · rw [hc] at hg; rw [show off + j = off + j / 4 * 4 + 3 from by omega, h3]; exact hg.symm
theorem own_toks {w : World} {g : Nat} {ts : List Lx.ATok} (h : ∀ j u, (asCells ts)[j]? = some u → w.cell? ⟨g, j, none⟩ = some u) : ToksAt w g 0 ts := by
  intro j t ht
  rw [Nat.zero_add]
  exact ⟨h _ _ (asCells_get ts j 0 t ht (by omega)), h _ _ (asCells_get ts j 1 t ht (by omega)), h _ _ (asCells_get ts j 2 t ht (by omega)), h _ _ (asCells_get ts j 3 t ht (by omega))⟩

theorem wpList_append_own_g {P : Program} (w : World) {ops : Array Oper} {rest : List Oper} {o : Oper} {a : Act} {Q : Exit → Act → World → Prop} (hgd : Region.wanted o (yielded ops a.tmps) = true) (s x : Operand) (t : TypeId)
    (ho : o.op = .call { callee := .builtin .append, args := #[s, x], argTypes := #[t, t] })
    (base : Nat) (e : TypeId) (i : TypeInfo) (z : Value) (size bytes : Nat) (ht : P.underlying t = some (.slice e)) (hi : P.info? e = some i) (hz : i.zero = some z)
    (hsize : i.size = size) (hby : i.bytes = bytes) (hzs : z.cells.size = size) (hsz : 0 < size)
    (v : Value) (n : Nat) (xs : List Value) (hs : a.eval s = v) (hown : w.ownsRow base e size v n xs)
    (ad : Addr) (m c : Nat) (news : List Value) (hx : a.eval x = .slice (some ad) m c) (hl : news.length = m * size) (hnews : ∀ j u, news[j]? = some u → w.cell? (ad.add j) = some u) (h1 : ∀ u ∈ news, u.oneCell' = true)
    (h63 : n + m ≤ maxLen) (hbytes : (n + m) * bytes ≤ 140737488355328) (hbase : base ≤ w.heap.size)
    (h : ∀ v' w', w'.ownsRow base e size v' (n + m) (xs ++ news) → w.grownBy w' v.ownBlock → (v'.ownBlock = v.ownBlock ∨ v'.ownBlock = some w.heap.size) → wpList P ops Q rest (a.put o.dst v') w') : wpList P ops Q (o :: rest) a w :=
  wpList_step fun K hK => by
    rw [if_pos hgd]
    obtain ⟨v', w', hr, h2, h3, h4, h5⟩ := run_append_own_at (P := P) w base t o.type e i z size bytes ht hi hz hsize hby hzs hsz v n xs hown ad m c news hl hnews h1 h63 hbytes hbase
    unfold Oper.wp execOp
    simp only [ho, resolve, invoke, builtin, Sem.run_bind, Sem.run_pure, Result.andThen_ok, List.map_toArray, List.map_cons, List.map_nil, hs, hx, hr]
    exact hK _ _ (h v' w' h2 h3 h5)
theorem own_news {w : World} {base g cap : Nat} {l : List UInt8} (h : ∀ j u, (l.map byteV)[j]? = some u → w.cell? ⟨g, j, none⟩ = some u) : ∀ j u, (l.map byteV)[j]? = some u → w.cell? ((⟨g, 0, none⟩ : Addr).add j) = some u := by
  intro j u hj
  rw [Go.WideShapes.add_plain, Nat.zero_add]
  exact h j u hj
theorem bytes_one (l : List UInt8) : ∀ u ∈ l.map byteV, u.oneCell' = true := by
  intro u hu
  obtain ⟨x, _, rfl⟩ := List.mem_map.1 hu
  rfl

end Go.Proofs.YtiglcjcellhggaaDoor

/- Tokens that were scanned beside tokens that came in. -/
import Derived.Test.YtiglcjcellhggaaDoorToksRows
import Derived.Test.YtiglcjcellhggaaDoorPlain8
namespace Go.Proofs.YtiglcjcellhggaaDoor
open Go.RowKit
set_option linter.unusedVariables false
set_option linter.unusedSimpArgs false

theorem toksCells_get : ∀ (l : List Lx.Tok) (j c : Nat) (t : Lx.Tok), l[j]? = some t → c < 4 → (toksCells l)[j * 4 + c]? = (tokCells t)[c]?
  | [], j, c, t, h, _ => by simp at h
  | x :: r, 0, c, t, h, hc => by
    simp at h; subst h
    show (tokCells x ++ toksCells r)[0 * 4 + c]? = _
    rw [Nat.zero_mul, Nat.zero_add, List.getElem?_append_left (by exact hc)]
  | x :: r, j + 1, c, t, h, hc => by
    show (tokCells x ++ toksCells r)[(j + 1) * 4 + c]? = _
    rw [List.getElem?_append_right (by show 4 ≤ _; omega), show (j + 1) * 4 + c - (tokCells x).length = j * 4 + c from by show (j + 1) * 4 + c - 4 = _; omega]
    exact toksCells_get r j c t (by simpa using h) hc
theorem bare_len {l : List Lx.Tok} {ts : List Lx.ATok} (h : l.map Lx.bare = ts.map Lx.bareA) : l.length = ts.length := by
  have := congrArg List.length h
  simpa using this
/-- The cells of token k on both sides hold the same kind, text, number. -/
theorem both_cells {w1 wr : World} {base g b off : Nat} {cap : Nat} {l : List Lx.Tok} {ts : List Lx.ATok} (h : l.map Lx.bare = ts.map Lx.bareA) (hown : w1.ownsRow base 25 4 (.slice (some ⟨g, 0, none⟩) l.length cap) l.length (toksCells l)) (hg : g < w1.heap.size) (hb : b < w1.heap.size) (hts : ToksAt w1 b off ts)
    (hbel : Below w1.heap.size w1 wr) (k : Nat) (hk : k < ts.length) :
    ∃ (q : Int) (s : ByteArray) (n : Int), wr.cell? ⟨g, k * 4, none⟩ = some (.int .i64 q) ∧ wr.cell? ⟨g, k * 4 + 1, none⟩ = some (.string s) ∧ wr.cell? ⟨g, k * 4 + 2, none⟩ = some (.int .i64 n) ∧
      wr.cell? ⟨b, off + k * 4, none⟩ = some (.int .i64 q) ∧ wr.cell? ⟨b, off + k * 4 + 1, none⟩ = some (.string s) ∧ wr.cell? ⟨b, off + k * 4 + 2, none⟩ = some (.int .i64 n) := by
  have hlen := bare_len h
  have hk' : k < l.length := by omega
  have e := congrArg (fun x => x[k]?) h
  simp only [List.getElem?_map, List.getElem?_eq_getElem hk', List.getElem?_eq_getElem hk, Option.map_some, Option.some.injEq, Lx.bare, Lx.bareA, Prod.mk.injEq] at e
  obtain ⟨e1, e2, e3⟩ := e
  obtain ⟨h0, h1, h2, _⟩ := hts k _ (List.getElem?_eq_getElem hk)
  have hc : ∀ c u, c < 4 → (tokCells l[k])[c]? = some u → wr.cell? ⟨g, k * 4 + c, none⟩ = some u := fun c u hc hu => by
    rw [hbel.cell (by exact hg), hown.cellAt _ (by omega), toksCells_get l k c _ (List.getElem?_eq_getElem hk') hc]
    exact hu
  refine ⟨l[k].kind, ⟨l[k].text.toArray⟩, l[k].num, hc 0 _ (by omega) rfl, hc 1 _ (by omega) rfl, hc 2 _ (by omega) rfl, ?_, ?_, ?_⟩
  · rw [hbel.cell (by exact hb), h0, e1]
  · rw [hbel.cell (by exact hb), h1, e2]
  · rw [hbel.cell (by exact hb), h2, e3]

end Go.Proofs.YtiglcjcellhggaaDoor

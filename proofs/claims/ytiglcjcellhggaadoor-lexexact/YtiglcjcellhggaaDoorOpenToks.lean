/- Slices of tokens that come in: what is known of them. -/
import Derived.Test.YtiglcjcellhggaaDoorKeep
import Derived.ProofKit
import Derived.OpenShut
import Derived.Deep.Slices
namespace Go.Proofs.YtiglcjcellhggaaDoor
open Go.ChangeShapes Go.WideShapes Go.ChangeAt Go.RowKit
set_option linter.unusedVariables false
set_option linter.unusedSimpArgs false

def IsToks (w : World) (a : Option Addr) (len cap : Nat) (ts : List Lx.ATok) : Prop :=
  ts.length = len ∧ len ≤ cap ∧ cap ≤ maxLen ∧ (∀ t ∈ ts, t.text.length ≤ maxLen) ∧ (len = 0 ∨ ∃ b off, a = some ⟨b, off, none⟩ ∧ b < w.heap.size ∧ ToksAt w b off ts)

theorem Tryd.cells25 : Tryd.prog.cellsOf 25 = 4 := by kernel_rfl
theorem Tryd.cells3 : Tryd.prog.cellsOf 3 = 1 := by kernel_rfl
theorem Tryd.cells9 : Tryd.prog.cellsOf 9 = 1 := by kernel_rfl

theorem open_tok {H : Type} {enc : TypeId × Value → H} {w : World} {base : Nat} {spare : Nat → Bool} {held : Bool} {n : Nat} {cs : List Value} {x : DataW H × List MemPlace}
    (h : DataW.trod enc Tryd.prog w base spare held n 25 cs = some x) : ∃ t : Lx.ATok, cs = [.int .i64 t.kind, .string ⟨t.text.toArray⟩, .int .i64 t.num, .int .i64 t.pos] ∧ t.text.length ≤ maxLen := by
  obtain ⟨xs, k, _, _, hlen, hxl, hf⟩ := DataW.trod_struct Tryd.underlying25 h
  rw [Tryd.cells25] at hlen
  match xs, hxl, cs, hlen with
  | [y0, y1, y2, y3], _, [v0, v1, v2, v3], _ =>
    have g0 := hf 0 _ rfl
    have g1 := hf 1 _ rfl
    have g2 := hf 2 _ rfl
    have g3 := hf 3 _ rfl
    simp [Tryd.cells3, Tryd.cells9] at g0 g1 g2 g3
    obtain ⟨n0, e0, _, _⟩ := DataW.trod_int Tryd.underlying3 g0
    obtain ⟨s1, e1, _, hs⟩ := DataW.trod_string Tryd.underlying9 g1
    obtain ⟨n2, e2, _, _⟩ := DataW.trod_int Tryd.underlying3 g2
    obtain ⟨n3, e3, _, _⟩ := DataW.trod_int Tryd.underlying3 g3
    simp at e0 e1 e2 e3
    subst e0 e1 e2 e3
    exact ⟨⟨n0, s1.data.toList, n2, n3⟩, rfl, by rw [Lx.toList_len]; exact hs⟩

theorem choose_tok {n : Nat} {p : Nat → Lx.ATok → Prop} (h : ∀ i, i < n → ∃ x, p i x) : ∃ f : Nat → Lx.ATok, ∀ i, i < n → p i (f i) := by
  refine ⟨fun i => if hi : i < n then Classical.choose (h i hi) else ⟨0, [], 0, 0⟩, fun i hi => ?_⟩
  simp only [dif_pos hi]
  exact Classical.choose_spec (h i hi)

theorem open_toks {H : Type} {enc : TypeId × Value → H} {w : World} {base : Nat} {spare : Nat → Bool} {held : Bool} {a : Option Addr} {len cap : Nat} {d : DataW H} {p : List MemPlace}
    (h : DataW.Trod enc Tryd.prog w base spare held 23 (.slice a len cap) d p) : ∃ ts, IsToks w a len cap ts := by
  obtain ⟨fuel, hf⟩ := h
  rcases Deep.open_slice Tryd.underlying23 hf with ⟨hcs, _⟩ | ⟨x, l, c, m, n, D, Pl, hcs, hb, hl, hm, hmm, _, hx⟩
  · simp [Value.cells] at hcs
    obtain ⟨rfl, rfl, rfl⟩ := hcs
    exact ⟨[], rfl, Nat.le_refl _, by decide, (fun t ht => by cases ht), .inl rfl⟩
  · simp [Value.cells] at hcs
    obtain ⟨rfl, rfl, rfl⟩ := hcs
    have hlm : len ≤ m := by rw [hmm]; split <;> omega
    have each : ∀ i, i < len → ∃ t : Lx.ATok, t.text.length ≤ maxLen ∧ w.cell? (x.add (i * 4)) = some (.int .i64 t.kind) ∧ w.cell? (x.add (i * 4 + 1)) = some (.string ⟨t.text.toArray⟩) ∧ w.cell? (x.add (i * 4 + 2)) = some (.int .i64 t.num) ∧ w.cell? (x.add (i * 4 + 3)) = some (.int .i64 t.pos) := by
      intro i hi
      obtain ⟨cs', h1, h2⟩ := hx i (by omega)
      rw [Tryd.cells25] at h1
      obtain ⟨t, rfl, htx⟩ := open_tok h2
      obtain ⟨_, _, hcell⟩ := World.cells?_some h1
      have e0 := hcell 0 (by omega)
      have e1 := hcell 1 (by omega)
      have e2 := hcell 2 (by omega)
      have e3 := hcell 3 (by omega)
      rw [Deep.add_add] at e0 e1 e2 e3
      exact ⟨t, htx, e0, e1, e2, e3⟩
    obtain ⟨T, hT⟩ := choose_tok each
    have hget : ∀ j t, ((List.range len).map T)[j]? = some t → j < len ∧ t = T j := by
      intro j t hj
      have hjl : j < len := by
        rcases Nat.lt_or_ge j len with h | h
        · exact h
        · rw [List.getElem?_eq_none (by simpa using h)] at hj; cases hj
      rw [List.getElem?_map, List.getElem?_range hjl] at hj
      simp at hj
      exact ⟨hjl, hj.symm⟩
    refine ⟨(List.range len).map T, by simp, hl, hm, ?_, ?_⟩
    · intro t ht
      obtain ⟨j, hj, rfl⟩ := List.mem_map.1 ht
      exact (hT j (List.mem_range.1 hj)).1
    · rcases Nat.eq_zero_or_pos len with h0 | h0
      · exact .inl h0
      · right
        have h00 := (hT 0 h0).2.1
        obtain ⟨b, off, spot⟩ := x
        have hspot : spot = none := by simpa [Addr.add] using World.cell?_spot h00
        subst hspot
        refine ⟨b, off, rfl, World.block_lt_of_cell? w _ h00, fun j t ht => ?_⟩
        obtain ⟨hjl, rfl⟩ := hget j t ht
        obtain ⟨_, q0, q1, q2, q3⟩ := hT j hjl
        rw [Go.WideShapes.add_plain] at q0 q1 q2 q3
        exact ⟨q0, q1, q2, q3⟩

end Go.Proofs.YtiglcjcellhggaaDoor

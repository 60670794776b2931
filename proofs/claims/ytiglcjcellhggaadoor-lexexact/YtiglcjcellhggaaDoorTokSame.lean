/- What Tokens answers of two rows that are alike. -/
import Derived.Test.YtiglcjcellhggaaDoorCompare
import Derived.Test.YtiglcjcellhggaaDoorAlls
namespace Go.Proofs.YtiglcjcellhggaaDoor
open Go.RowKit
set_option linter.unusedVariables false
set_option linter.unusedSimpArgs false

theorem hide {p : Prop} (h : p) : Hid p := h
def TokRow (w : World) (a : Option Addr) (l : List Lx.Tok) : Prop := l = [] ∨ ∃ b, a = some ⟨b, 0, none⟩ ∧ b < w.heap.size ∧ ∀ (k : Nat) (t : Lx.Tok), l[k]? = some t →
  w.cell? ⟨b, k * 4, none⟩ = some (.int .i64 t.kind) ∧ w.cell? ⟨b, k * 4 + 1, none⟩ = some (.string ⟨t.text.toArray⟩) ∧ w.cell? ⟨b, k * 4 + 2, none⟩ = some (.int .i64 t.num) ∧ w.cell? ⟨b, k * 4 + 3, none⟩ = some (.int .i64 (t.pos : Int))
theorem own_tokRow {w : World} {base : Nat} {a : Option Addr} {cap : Nat} {l : List Lx.Tok} (h : w.ownsRow base 25 4 (.slice a l.length cap) l.length (toksCells l)) : TokRow w a l := by
  by_cases hl : l = []
  · exact .inl hl
  · obtain ⟨g, cap1, hv, hg, hg', hnc, hcm, hcell⟩ := own_some h (List.length_pos_iff.2 hl)
    simp only [Value.slice.injEq] at hv
    obtain ⟨rfl, _, rfl⟩ := hv
    refine .inr ⟨g, rfl, hg', fun k t ht => ?_⟩
    have hc : ∀ c u, c < 4 → (tokCells t)[c]? = some u → w.cell? ⟨g, k * 4 + c, none⟩ = some u := fun c u hc hu => by
      apply hcell
      rw [toksCells_get l k c _ ht hc]
      exact hu
    exact ⟨hc 0 _ (by omega) rfl, hc 1 _ (by omega) rfl, hc 2 _ (by omega) rfl, hc 3 _ (by omega) rfl⟩
theorem TokRow.on {w w' : World} {a : Option Addr} {l : List Lx.Tok} (h : TokRow w a l) (hb : Below w.heap.size w w') : TokRow w' a l := by
  rcases h with h | ⟨b, rfl, hlt, hc⟩
  · exact .inl h
  · refine .inr ⟨b, rfl, Nat.lt_of_lt_of_le hlt hb.size, fun k t ht => ?_⟩
    obtain ⟨h0, h1, h2, h3⟩ := hc k t ht
    exact ⟨(hb.cell (by exact hlt)).trans h0, (hb.cell (by exact hlt)).trans h1, (hb.cell (by exact hlt)).trans h2, (hb.cell (by exact hlt)).trans h3⟩

set_option maxRecDepth 100000 in
set_option maxHeartbeats 2000000 in
theorem Tokens_same (l : List Lx.Tok) (a1 a2 : Option Addr) (c1 c2 : Nat) (w : World) (hn : l.length ≤ 100000) (h1 : TokRow w a1 l) (h2 : TokRow w a2 l) :
    Calls Tryd.prog 16 #[.slice a1 l.length c1, .slice a2 l.length c2] w fun e w' => e = .returned (.bool true) ∧ Below w.heap.size w w' := by
  have hemp : l = [] → Calls Tryd.prog 16 #[.slice a1 l.length c1, .slice a2 l.length c2] w fun e w' => e = .returned (.bool true) ∧ Below w.heap.size w w' := fun h => by
    subst h
    go_enter Tryd.func16, Tryd.ntmps16
    go_wp2
    refine wp_loop_rounds 1 ?_
    rw [rounds_succ]
    go_wp2
    go_ret
    exact ⟨rfl, Below.refl _ _⟩
  rcases h1 with h1 | ⟨b1, rfl, hb1, hc1⟩
  · exact hemp h1
  rcases h2 with h2 | ⟨b2, rfl, hb2, hc2⟩
  · exact hemp h2
  clear hemp
  have H1 := hide hc1
  have H2 := hide hc2
  clear hc1 hc2
  obtain ⟨len, hlen⟩ : ∃ len, len = l.length := ⟨_, rfl⟩
  have HL : Hid (len = l.length) := hlen
  rw [← hlen] at hn ⊢
  clear hlen
  go_enter Tryd.func16, Tryd.ntmps16
  go_wp2
  go_loopw [5] (fun i wr => ∃ k : Nat, k ≤ len ∧ i = .int .i64 k ∧ Below w.heap.size w wr) (fun i _ => len - (intOf i).toNat)
  case atStart => exact ⟨0, Nat.zero_le _, rfl, Below.refl _ _⟩
  case round =>
    obtain ⟨k, hk, rfl, hbel⟩ := hrel
    by_cases hlt : k < len
    · obtain ⟨t, ht⟩ : ∃ t, l[k]? = some t := ⟨l[k]'(by rw [← HL.out]; exact hlt), List.getElem?_eq_getElem _⟩
      obtain ⟨p0, p1, p2, p3⟩ := H1.out k t ht
      obtain ⟨q0, q1, q2, q3⟩ := H2.out k t ht
      rw [← hbel.cell (by exact hb1)] at p0 p1 p2 p3
      rw [← hbel.cell (by exact hb2)] at q0 q1 q2 q3
      clear ht
      generalize t.kind = d0 at *
      generalize (⟨t.text.toArray⟩ : ByteArray) = d1 at *
      generalize t.num = d2 at *
      generalize (t.pos : Int) = d3 at *
      have hlt' : (k : Int) < (len : Int) := by omega
      go_wp2_with fail
      go_quiet (fail)
      go_wp2_with fail
      go_roundw
      case rel => exact ⟨k + 1, by omega, by go_num, by first | exact hbel | exact below_drewN hbel _⟩
      case measure => simp [intOf]; omega
    · go_wp2_with fail
      go_ret
      exact ⟨rfl, hbel⟩

end Go.Proofs.YtiglcjcellhggaaDoor

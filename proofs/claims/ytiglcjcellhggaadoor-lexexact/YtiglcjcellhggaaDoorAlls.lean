/- Join and Twin of whatever comes in. -/
import Derived.Test.YtiglcjcellhggaaDoorTwin
namespace Go.Proofs.YtiglcjcellhggaaDoor
open Go.RowKit
set_option linter.unusedVariables false
set_option linter.unusedSimpArgs false

theorem Join_all (ts : List Lx.ATok) (a : Option Addr) (n c : Nat) (w : World) (hn : n ≤ 1000) (ht : Tab w) (hx : IsToks w a n c ts) :
    Calls Tryd.prog 10 #[.slice a n c] w fun e w' => ∃ v, e = .returned (.tuple #[v, .int .i64 (errOf (Lx.joinL ts))]) ∧
      w'.ownsRow w.heap.size 5 1 v ((Lx.joinL ts).getD []).length (((Lx.joinL ts).getD []).map byteV) ∧ Below w.heap.size w w' := by
  obtain ⟨rfl, hc1, hm1, hl1, hx⟩ := hx
  have hemp : ts.length = 0 → Calls Tryd.prog 10 #[.slice a ts.length c] w fun e w' => ∃ v, e = .returned (.tuple #[v, .int .i64 (errOf (Lx.joinL ts))]) ∧
      w'.ownsRow w.heap.size 5 1 v ((Lx.joinL ts).getD []).length (((Lx.joinL ts).getD []).map byteV) ∧ Below w.heap.size w w' := fun h0 => by
    have : ts = [] := List.eq_nil_of_length_eq_zero h0
    subst this
    refine (Join_empty a c w).mono ?_
    rintro e w' ⟨rfl, rfl⟩
    exact ⟨_, rfl, World.ownsRow_nil _ _ _ _, Below.refl _ _⟩
  rcases hx with hx | ⟨b1, o1, rfl, hb1, hx⟩
  · exact hemp hx
  · exact Join_any ts b1 o1 c w hn hc1 hb1 ht hx hl1
theorem Twin_own (l : List UInt8) (base : Nat) (v : Value) (w : World) (hn : l.length ≤ 100000) (hown : w.ownsRow base 5 1 v l.length (l.map byteV)) :
    Calls Tryd.prog 7 #[v] w fun e w' => ∃ v', e = .returned v' ∧ w'.ownsRow w.heap.size 5 1 v' l.length (l.map byteV) ∧ Below w.heap.size w w' := by
  rcases hown.2 with ⟨rfl, h0⟩ | ⟨g, cap, cur, rfl, hb, hg, hnc, hcm, _, _⟩
  · have : l = [] := List.eq_nil_of_length_eq_zero h0
    subst this
    refine (Twin_nil w).mono ?_
    rintro e w' ⟨rfl, rfl⟩
    exact ⟨_, rfl, World.ownsRow_nil _ _ _ _, Below.refl _ _⟩
  · refine Twin_any l g 0 cap w hn (fun k hk => ?_)
    rw [Nat.zero_add, hown.cellAt k (by omega)]
    simp [List.getD, hk, byteV]
theorem Scan_own (l : List UInt8) (base : Nat) (v : Value) (w : World) (hn : l.length ≤ 6000) (hown : w.ownsRow base 5 1 v l.length (l.map byteV)) :
    Calls Tryd.prog 8 #[v] w fun e w' => ∃ v', e = .returned (.tuple #[v', .int .i64 ((Lx.scanL l).2.1 : Int), .int .i64 ((Lx.scanL l).2.2 : Int)]) ∧
      w'.ownsRow w.heap.size 25 4 v' (Lx.scanL l).1.length (toksCells (Lx.scanL l).1) ∧ Below w.heap.size w w' := by
  rcases hown.2 with ⟨rfl, h0⟩ | ⟨g, cap, cur, rfl, hb, hg, hnc, hcm, _, _⟩
  · have : l = [] := List.eq_nil_of_length_eq_zero h0
    subst this
    refine (Scan_empty none 0 w).mono ?_
    rintro e w' ⟨rfl, rfl⟩
    exact ⟨_, rfl, World.ownsRow_nil _ _ _ _, Below.refl _ _⟩
  · refine Scan_any l g 0 cap w hn hnc (Array.getElem?_eq_some_iff.1 hg).1 (fun k hk => ?_)
    rw [Nat.zero_add, hown.cellAt k (by omega)]
    simp [List.getD, hk, byteV]

end Go.Proofs.YtiglcjcellhggaaDoor

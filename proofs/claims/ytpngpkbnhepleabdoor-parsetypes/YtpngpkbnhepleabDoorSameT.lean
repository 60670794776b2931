/- What Types answers of two rows that are alike. -/
import Derived.Test.YtpngpkbnhepleabDoorMem
import Derived.Test.YtpngpkbnhepleabDoorKeptOp
namespace Go.Proofs.YtpngpkbnhepleabDoor
open Go.RowKit
set_option linter.unusedVariables false
set_option linter.unusedSimpArgs false

set_option maxRecDepth 100000 in
set_option maxHeartbeats 2000000 in
theorem Types_same (l : List Pp.Ty) (v1 v2 : Value) (w : World) (hn : l.length ≤ 100000) (h1 : RowP w 2 TyP v1 l) (h2 : RowP w 2 TyP v2 l) :
    Calls Tryd.prog 11 #[v1, v2] w fun e w' => e = .returned (.bool true) ∧ Below w.heap.size w w' := by
  obtain ⟨a1, c1, rfl, _, h1⟩ := h1
  obtain ⟨a2, c2, rfl, _, h2⟩ := h2
  have hemp : l = [] → Calls Tryd.prog 11 #[.slice a1 l.length c1, .slice a2 l.length c2] w fun e w' => e = .returned (.bool true) ∧ Below w.heap.size w w' := fun h => by
    subst h
    go_enter Tryd.func11, Tryd.ntmps11
    go_wp2
    refine wp_loop_rounds 1 ?_
    rw [rounds_succ]
    go_wp2
    go_ret
    exact ⟨rfl, Below.refl _ _⟩
  rcases h1 with h1 | ⟨b1, o1, rfl, hb1, hc1⟩
  · exact hemp h1
  rcases h2 with h2 | ⟨b2, o2, rfl, hb2, hc2⟩
  · exact hemp h2
  clear hemp
  have H1 := hide hc1
  have H2 := hide hc2
  clear hc1 hc2
  obtain ⟨len, hlen⟩ : ∃ len, len = l.length := ⟨_, rfl⟩
  have HL : Hid (len = l.length) := hlen
  rw [← hlen] at hn ⊢
  clear hlen
  go_enter Tryd.func11, Tryd.ntmps11
  go_wp2
  go_loopw [5] (fun i wr => ∃ k : Nat, k ≤ len ∧ i = .int .i64 k ∧ Below w.heap.size w wr) (fun i _ => len - (intOf i).toNat)
  case atStart => exact ⟨0, Nat.zero_le _, rfl, Below.refl _ _⟩
  case round =>
    obtain ⟨k, hk, rfl, hbel⟩ := hrel
    by_cases hlt : k < len
    · obtain ⟨t, ht⟩ : ∃ t, l[k]? = some t := ⟨l[k]'(by rw [← HL.out]; exact hlt), List.getElem?_eq_getElem _⟩
      obtain ⟨ys1, e1, g1⟩ := H1.out k t ht
      obtain ⟨ys2, e2, g2⟩ := H2.out k t ht
      obtain rfl : ys1 = _ := e1
      obtain rfl : ys2 = _ := e2
      have p0 := g1 0 _ rfl
      have p1 := g1 1 _ rfl
      have q0 := g2 0 _ rfl
      have q1 := g2 1 _ rfl
      rw [← hbel.cell (by exact hb1)] at p0 p1
      rw [← hbel.cell (by exact hb2)] at q0 q1
      rw [Nat.add_zero] at p0 q0
      clear ht g1 g2
      generalize t.kind = d0 at *
      generalize (⟨t.name.toArray⟩ : ByteArray) = d1 at *
      have hlt' : (k : Int) < (len : Int) := by omega
      go_wp2_with fail
      go_quiet (fail)
      go_wp2_with fail
      go_roundw
      case rel => exact ⟨k + 1, by omega, by go_num, by first | exact hbel | exact below_drewN hbel _⟩
      case measure => simp [intOf]; omega
    · go_wp2_with fail
      go_ret
      exact ⟨rfl, hbel⟩

end Go.Proofs.YtpngpkbnhepleabDoor

/- What the comparisons answer of any two rows, programs. -/
import Derived.Test.YtdgfidaopkcjoaaDoorKeepS
import Derived.Test.YtdgfidaopkcjoaaDoorMgA
namespace Go.Proofs.YtdgfidaopkcjoaaDoor
open Go.RowKit
set_option linter.unusedVariables false
set_option linter.unusedSimpArgs false

namespace Eq
def Is {α : Type} (x y : α) (e : Ending) : Prop := ∃ b, e = .returned (.bool b) ∧ (b = true ↔ x = y)
theorem yes {α : Type} {x y : α} (h : x = y) : Is x y (.returned (.bool true)) := ⟨true, rfl, ⟨fun _ => h, fun _ => rfl⟩⟩
theorem no {α : Type} {x y : α} (h : x ≠ y) : Is x y (.returned (.bool false)) := ⟨false, rfl, ⟨fun hh => absurd hh (by decide), fun e => absurd e h⟩⟩
theorem row_at {α : Type} {W : World} {sz : Nat} {P : α → List Value → Prop} {a : Option Addr} {n c : Nat} {l : List α} (h : RowX W sz P (.slice a n c) l) {k : Nat} {x : α} (hx : l[k]? = some x) : ∃ b o, a = some ⟨b, o, none⟩ ∧ ∃ ys, P x ys ∧ ∀ wx, Below W.heap.size W wx → ∀ (j : Nat) (u : Value), ys[j]? = some u → wx.cell? ⟨b, o + k * sz + j, none⟩ = some u := by
  obtain ⟨a', c', e, hc, h⟩ := h
  injection e with e1 e2 e3
  subst e1
  rcases h with rfl | ⟨b, o, rfl, hlt, hr⟩
  · simp at hx
  · obtain ⟨ys, h1, h2⟩ := hr k x hx
    exact ⟨b, o, rfl, ys, h1, fun wx hb j u hj => (hb.cell (by exact hlt)).trans (h2 j u hj)⟩
theorem take_step {α : Type} {l1 l2 : List α} {k : Nat} {x : α} (h : l1.take k = l2.take k) (h1 : l1[k]? = some x) (h2 : l2[k]? = some x) : l1.take (k + 1) = l2.take (k + 1) := by
  rw [List.take_add_one, List.take_add_one, h, h1, h2]
theorem take_end {α : Type} {l1 l2 : List α} {k : Nat} (h : l1.take k = l2.take k) (h1 : l1.length ≤ k) (h2 : l2.length ≤ k) : l1 = l2 := by
  rw [List.take_of_length_le h1, List.take_of_length_le h2] at h; exact h
theorem ne_at {α : Type} {l1 l2 : List α} {k : Nat} {x y : α} (h1 : l1[k]? = some x) (h2 : l2[k]? = some y) (h : x ≠ y) : l1 ≠ l2 := fun e => by
  rw [e, h2] at h1; injection h1 with h1; exact h h1.symm
end Eq

set_option maxRecDepth 100000 in
set_option maxHeartbeats 4000000 in
theorem Types_eq (l1 l2 : List Pp.Ty) (v1 v2 : Value) (w : World) (h1 : RowX w 2 TyX v1 l1) (h2 : RowX w 2 TyX v2 l2) (n1 : l1.length ≤ 100000) (n2 : l2.length ≤ 100000) :
    Calls Tryd.prog 78 #[v1, v2] w fun e w' => Eq.Is l1 l2 e ∧ Below w.heap.size w w' := by
  obtain ⟨a1, c1, rfl, _⟩ := h1.len
  obtain ⟨a2, c2, rfl, _⟩ := h2.len
  have H1 := hide h1
  have H2 := hide h2
  obtain ⟨m1, hm1⟩ : ∃ m, m = l1.length := ⟨_, rfl⟩
  obtain ⟨m2, hm2⟩ : ∃ m, m = l2.length := ⟨_, rfl⟩
  have HM1 := hide hm1
  have HM2 := hide hm2
  rw [← hm1] at H1 n1 ⊢
  rw [← hm2] at H2 n2 ⊢
  clear h1 h2 hm1 hm2
  by_cases hne : m1 = m2
  · subst hne
    go_enter Tryd.func78, Tryd.ntmps78
    go_wp2_with fail
    go_loopw [5] (fun i wr => ∃ k : Nat, k ≤ m1 ∧ i = .int .i64 k ∧ Below w.heap.size w wr ∧ Hid (l1.take k = l2.take k)) (fun i _ => m1 - (intOf i).toNat)
    case atStart => exact ⟨0, Nat.zero_le _, rfl, Below.refl _ _, rfl⟩
    case round =>
      obtain ⟨k, hk, rfl, hbel, HT⟩ := hrel
      by_cases hlt : k < m1
      · obtain ⟨x, hx⟩ : ∃ x, l1[k]? = some x := ⟨l1[k]'(by rw [← HM1.out]; exact hlt), List.getElem?_eq_getElem _⟩
        obtain ⟨y, hy⟩ : ∃ y, l2[k]? = some y := ⟨l2[k]'(by rw [← HM2.out]; exact hlt), List.getElem?_eq_getElem _⟩
        obtain ⟨g1, o1, rfl, ys1, e1, hc1⟩ := Eq.row_at H1.out hx
        obtain ⟨g2, o2, rfl, ys2, e2, hc2⟩ := Eq.row_at H2.out hy
        obtain rfl : ys1 = _ := e1.1
        obtain rfl : ys2 = _ := e2.1
        have r0 := hc1 wr hbel 0 _ rfl
        have r1 := hc1 wr hbel 1 _ rfl
        have s0 := hc2 wr hbel 0 _ rfl
        have s1 := hc2 wr hbel 1 _ rfl
        rw [Nat.add_zero] at r0 s0
        have HX := hide hx
        have HY := hide hy
        clear hc1 hc2 hx hy e1 e2
        have hlt' : (k : Int) < (m1 : Int) := by omega
        obtain ⟨kx, nx⟩ := x
        obtain ⟨ky, ny⟩ := y
        simp only at r0 r1 s0 s1
        by_cases ek : kx = ky
        · subst ek
          by_cases en : nx = ny
          · subst en
            have HS := hide (Eq.take_step HT.out HX.out HY.out)
            generalize (⟨nx.toArray⟩ : ByteArray) = S at *
            go_wp2_with fail
            go_quiet (fail)
            go_wp2_with fail
            go_roundw
            case rel => exact ⟨k + 1, by omega, by go_num, by first | exact hbel | exact below_drewN hbel _, HS⟩
            case measure => simp [intOf]; omega
          · have HN := hide (Eq.ne_at HX.out HY.out (fun e => en (by injection e)))
            have en' : (nx == ny) = false := by simpa using en
            go_wp2_with fail
            go_quiet (fail)
            go_wp2_with fail
            go_ret
            exact ⟨Eq.no HN.out, by first | exact hbel | exact below_drewN hbel _⟩
        · have HN := hide (Eq.ne_at HX.out HY.out (fun e => ek (by injection e)))
          have ek' : (kx == ky) = false := by simpa using ek
          go_wp2_with fail
          go_quiet (fail)
          go_wp2_with fail
          go_ret
          exact ⟨Eq.no HN.out, by first | exact hbel | exact below_drewN hbel _⟩
      · have HE := hide (Eq.take_end HT.out (by rw [← HM1.out]; omega) (by rw [← HM2.out]; omega))
        go_wp2_with fail
        go_ret
        exact ⟨Eq.yes HE.out, hbel⟩
  · have hne' : ((m1 : Int) != (m2 : Int)) = true := by simp; omega
    have HN : Hid (l1 ≠ l2) := hide (fun e => hne (by rw [HM1.out, HM2.out, e]))
    go_enter Tryd.func78, Tryd.ntmps78
    go_wp2_with fail
    go_ret
    exact ⟨Eq.no HN.out, Below.refl _ _⟩

end Go.Proofs.YtdgfidaopkcjoaaDoor

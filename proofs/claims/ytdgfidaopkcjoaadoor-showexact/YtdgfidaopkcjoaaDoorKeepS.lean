/- What Bytes answers of two rows that are alike. -/
import Derived.Test.YtdgfidaopkcjoaaDoorShowJ
import Derived.BigQuiet
import Derived.Deep.QuietTactic
import Derived.WalkSmall
namespace Go.Proofs.YtdgfidaopkcjoaaDoor
open Go.RowKit
set_option linter.unusedVariables false
set_option linter.unusedSimpArgs false

def RowAt (w : World) (a : Option Addr) (l : List UInt8) : Prop := l = [] ∨ ∃ b off, a = some ⟨b, off, none⟩ ∧ b < w.heap.size ∧ ∀ k, k < l.length → w.cell? ⟨b, off + k, none⟩ = some (.int .u8 ((l.getD k 0).toNat : Int))
theorem own_rowAt {w : World} {base : Nat} {a : Option Addr} {cap : Nat} {l : List UInt8} (h : w.ownsRow base 5 1 (.slice a l.length cap) l.length (l.map Sh.byV)) : RowAt w a l := by
  rcases h.2 with ⟨e0, e⟩ | ⟨g, cap, cur, e0, hb, hg, r1, r2, r3, r4⟩
  · exact .inl (List.length_eq_zero_iff.1 e)
  · injection e0 with e1 e2 e3
    subst e1 e3
    refine .inr ⟨g, 0, rfl, Sh.lt_of_blk hg, fun i hi => ?_⟩
    rw [Nat.zero_add, cell_box hg]
    have h5 := congrArg (fun x : List Value => x[i]?) r4
    simp only [List.getElem?_map, List.getElem?_take] at h5
    rw [if_pos (by omega)] at h5
    rw [List.getElem?_eq_getElem hi] at h5
    simp only [Option.map_some, Array.getElem?_toList] at h5
    rw [h5]
    simp [Sh.byV, List.getD, hi]
theorem RowAt.on {w w' : World} {a : Option Addr} {l : List UInt8} (h : RowAt w a l) (hb : Below w.heap.size w w') : RowAt w' a l := by
  rcases h with h | ⟨b, off, rfl, hlt, hc⟩
  · exact .inl h
  · exact .inr ⟨b, off, rfl, Nat.lt_of_lt_of_le hlt hb.size, fun k hk => (hb.cell (by exact hlt)).trans (hc k hk)⟩

set_option maxHeartbeats 2000000 in
theorem Bytes_same (l : List UInt8) (a1 a2 : Option Addr) (c1 c2 : Nat) (w : World) (hn : l.length ≤ 100000) (h1 : RowAt w a1 l) (h2 : RowAt w a2 l) :
    Calls Tryd.prog 17 #[.slice a1 l.length c1, .slice a2 l.length c2] w fun e w' => e = .returned (.bool true) ∧ Below w.heap.size w w' := by
  rcases h1 with rfl | ⟨b1, o1, rfl, hb1, hc1⟩
  · go_enter Tryd.func17, Tryd.ntmps17
    go_wp2
    refine wp_loop_rounds 1 ?_
    rw [rounds_succ]
    go_wp2
    go_ret
    exact ⟨rfl, Below.refl _ _⟩
  rcases h2 with rfl | ⟨b2, o2, rfl, hb2, hc2⟩
  · go_enter Tryd.func17, Tryd.ntmps17
    go_wp2
    refine wp_loop_rounds 1 ?_
    rw [rounds_succ]
    go_wp2
    go_ret
    exact ⟨rfl, Below.refl _ _⟩
  have H1 : Hid (∀ k, k < l.length → w.cell? ⟨b1, o1 + k, none⟩ = some (.int .u8 ((l.getD k 0).toNat : Int))) := hc1
  have H2 : Hid (∀ k, k < l.length → w.cell? ⟨b2, o2 + k, none⟩ = some (.int .u8 ((l.getD k 0).toNat : Int))) := hc2
  clear hc1 hc2
  obtain ⟨len, hlen⟩ : ∃ len, len = l.length := ⟨_, rfl⟩
  have HL : Hid (len = l.length) := hlen
  rw [← hlen] at hn ⊢
  clear hlen
  go_enter Tryd.func17, Tryd.ntmps17
  go_wp2
  go_loopw [5] (fun i wr => ∃ k : Nat, k ≤ len ∧ i = .int .i64 k ∧ Below w.heap.size w wr) (fun i _ => len - (intOf i).toNat)
  case atStart => exact ⟨0, Nat.zero_le _, rfl, Below.refl _ _⟩
  case round =>
    obtain ⟨k, hk, rfl, hbel⟩ := hrel
    by_cases hlt : k < len
    · have hd1 := (hbel.cell (p := ⟨b1, o1 + k, none⟩) (by exact hb1)).trans (H1.out k (by rw [← HL.out]; exact hlt))
      have hd2 := (hbel.cell (p := ⟨b2, o2 + k, none⟩) (by exact hb2)).trans (H2.out k (by rw [← HL.out]; exact hlt))
      generalize (l.getD k 0).toNat = d at *
      have hlt' : (k : Int) < (len : Int) := by omega
      go_wp2_with fail
      go_quiet (fail)
      go_wp2_with fail
      go_roundw
      case rel => exact ⟨k + 1, by omega, by go_num, by first | exact hbel | exact below_drewN hbel _⟩
      case measure => simp [intOf]; omega
    · go_wp2_with fail
      go_ret
      exact ⟨rfl, hbel⟩

end Go.Proofs.YtdgfidaopkcjoaaDoor

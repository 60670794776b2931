/- What ring, under answer. -/
import Derived.Test.YtildjihgklgibaaDoorHierC
namespace Go.Proofs.YtildjihgklgibaaDoor
open Go.RowKit
set_option linter.unusedVariables false
set_option linter.unusedSimpArgs false
namespace Hr
def Yes (P : Prop) (e : Ending) : Prop := ∃ b : Bool, e = .returned (.bool b) ∧ (b = true ↔ P)
theorem Yes.yes {P : Prop} (h : P) : Yes P (.returned (.bool true)) := ⟨true, rfl, ⟨fun _ => h, fun _ => rfl⟩⟩
theorem Yes.no {P : Prop} (h : ¬ P) : Yes P (.returned (.bool false)) := ⟨false, rfl, ⟨fun hh => absurd hh (by decide), fun e => absurd e h⟩⟩
theorem Yes.t {P : Prop} {e : Ending} (h : Yes P e) (hp : P) : e = .returned (.bool true) := by
  obtain ⟨b, rfl, hb⟩ := h; rw [hb.2 hp]
theorem Yes.f {P : Prop} {e : Ending} (h : Yes P e) (hp : ¬ P) : e = .returned (.bool false) := by
  obtain ⟨b, rfl, hb⟩ := h
  cases b with
  | true => exact absurd (hb.1 rfl) hp
  | false => rfl
/-- A tree's second row, sound. -/
structure UpsX (w : World) (n : Nat) (vu : Value) (up : List (List Nat)) : Prop where
  row : RowX w 1 (UpX w) vu up
  len : up.length = n
  low : ∀ u ∈ up, ∀ k ∈ u, k < n
  few : ∀ u ∈ up, u.length ≤ 2000
  top : n ≤ 1000
theorem UpsX.on {w w' : World} {n : Nat} {vu : Value} {up : List (List Nat)} (h : UpsX w n vu up) (hb : Below w.heap.size w w') : UpsX w' n vu up :=
  ⟨h.row.on hb fun _ _ h => h.on hb, h.len, h.low, h.few, h.top⟩
end Hr

set_option maxRecDepth 100000 in
set_option maxHeartbeats 8000000 in
theorem ring_any (n : Nat) (pa : Option Addr) (pc : Nat) (up : List (List Nat)) (vu : Value) (w : World) (h : Hr.UpsX w n vu up) :
    Calls Tryd.prog 57 #[.agg #[.slice pa n pc, vu]] w fun e w' => Hr.Yes (Hr.Ring up) e ∧ Below w.heap.size w w' := by
  have HBy := hide (fun wx (hb : Below w.heap.size w wx) (a : Nat) (ha : a < n) => beyond_any n pa pc up vu a wx (h.on hb).row h.len ha h.low h.few h.top)
  have HU := hide h
  have h1000 := h.top
  obtain ⟨ua, uc, rfl, _⟩ := h.row.len
  rw [h.len] at HBy ⊢
  clear h
  have hx0 := hide (heap_alloc_new w (.cells #[.slice pa n pc, .slice ua n uc] 73))
  have HB0 := hide ((Below.refl w.heap.size w).alloc (Nat.le_refl _) (.cells #[.slice pa n pc, .slice ua n uc] 73))
  go_enter Tryd.func57, Tryd.ntmps57
  go_wp2_with fail
  have HC : Hid (∀ wx, Below (w.alloc (.cells #[.slice pa n pc, .slice ua n uc] 73)).heap.size (w.alloc (.cells #[.slice pa n pc, .slice ua n uc] 73)) wx → wx.cell? ⟨w.heap.size, 0, none⟩ = some (.slice pa n pc) ∧ wx.cell? ⟨w.heap.size, 1, none⟩ = some (.slice ua n uc)) := hide fun wx hb => ⟨cell_box ((hb.block w.heap.size (Ow.lt_of_blk hx0.out)).trans hx0.out) 0, cell_box ((hb.block w.heap.size (Ow.lt_of_blk hx0.out)).trans hx0.out) 1⟩
  generalize w.alloc (.cells #[.slice pa n pc, .slice ua n uc] 73) = w0 at *
  clear hx0
  go_loopw [7] (fun i wr => ∃ k : Nat, k ≤ n ∧ i = .int .i64 k ∧ Hid (Below w0.heap.size w0 wr) ∧ Hid (∀ j, j < k → ¬ Hr.Far up j j)) (fun i _ => n - (intOf i).toNat)
  case atStart => exact ⟨0, Nat.zero_le _, rfl, hide (Below.refl _ _), hide fun j hj => absurd hj (Nat.not_lt_zero _)⟩
  case round =>
    obtain ⟨k, hk, rfl, HBr, HF⟩ := hrel
    have HBw := hide (HB0.out.trans (HBr.out.mono HB0.out.size))
    have hn1 : (n : Int) ≤ 1000 := by omega
    by_cases hlt : k < n
    · have c0 := (HC.out wr HBr.out).1
      have c1 := (HC.out wr HBr.out).2
      have hlt' : (k : Int) < (n : Int) := by omega
      go_wp2_with fail
      refine (HBy.out wr HBw.out k hlt).mono ?_
      rintro e w5 ⟨v, rfl, ⟨b, rfl, hm⟩, hb5⟩
      obtain ⟨m, hm1, hm2⟩ := hm k hlt
      have HB5 := hide (HBr.out.trans (hb5.mono HBr.out.size))
      have HM2 := hide hm2
      clear hm hb5 c0 c1 hm2
      cases m with
      | true =>
        go_wp2_with fail
        go_ret
        exact ⟨.yes ⟨k, HM2.out.1 (by simp)⟩, HB0.out.trans (HB5.out.mono HB0.out.size)⟩
      | false =>
        have HF' : Hid (∀ j, j < k + 1 → ¬ Hr.Far up j j) := hide fun j hj hf => by
          rcases Nat.lt_or_eq_of_le (Nat.le_of_lt_succ hj) with h | rfl
          · exact HF.out j h hf
          · have := HM2.out.2 hf; cases this
        clear HM2 HF
        go_wp2_with fail
        go_roundw
        case rel => first | exact ⟨k + 1, by omega, by go_num, HB5, HF'⟩ | ((repeat apply Exists.intro); exact ⟨⟨k + 1, by omega, by go_num, HB5, HF'⟩, rfl⟩)
        case measure => simp [intOf]; omega
    · have hnl : ¬ ((k : Int) < (n : Int)) := by omega
      go_wp2_with fail
      go_ret
      refine ⟨.no ?_, HBw.out⟩
      rintro ⟨i, hi⟩
      have key : ∀ {i j : Nat}, Hr.Far up i j → i < up.length := by
        intro i j h
        exact Hr.Far.ind (C := fun i _ => i < up.length) (fun ⟨u, hu, _⟩ => (List.getElem?_eq_some_iff.1 hu).1) (fun _ _ ih => ih) h
      have := key hi
      rw [HU.out.len] at this
      exact HF.out i (by omega) hi

set_option maxRecDepth 100000 in
set_option maxHeartbeats 8000000 in
theorem under_any (n : Nat) (pa : Option Addr) (pc : Nat) (up : List (List Nat)) (vu : Value) (lo hi : Nat) (w : World) (h : Hr.UpsX w n vu up) (h1 : lo < n) (h2 : hi < n) :
    Calls Tryd.prog 38 #[.agg #[.slice pa n pc, vu], .int .i64 lo, .int .i64 hi] w fun e w' => Hr.Yes (lo = hi ∨ hi = 0 ∨ Hr.Far up lo hi) e ∧ Below w.heap.size w w' := by
  have HBy := hide (fun wx (hb : Below w.heap.size w wx) (a : Nat) (ha : a < n) => beyond_any n pa pc up vu a wx (h.on hb).row h.len ha h.low h.few h.top)
  have h1000 := h.top
  obtain ⟨ua, uc, rfl, _⟩ := h.row.len
  rw [h.len] at HBy ⊢
  clear h
  have HB0 := hide ((Below.refl w.heap.size w).alloc (Nat.le_refl _) (.cells #[.slice pa n pc, .slice ua n uc] 73))
  have hn1 : (n : Int) ≤ 1000 := by omega
  by_cases hq : lo = hi
  · subst hq
    go_enter Tryd.func38, Tryd.ntmps38
    go_wp2_with fail
    go_ret
    exact ⟨.yes (by simp), HB0.out⟩
  · have hq' : (lo : Int) ≠ (hi : Int) := by omega
    by_cases hz : hi = 0
    · subst hz
      go_enter Tryd.func38, Tryd.ntmps38
      go_wp2_with fail
      go_ret
      exact ⟨.yes (by simp), HB0.out⟩
    · have hz' : (hi : Int) ≠ 0 := by omega
      have h1' : (lo : Int) < (n : Int) := by omega
      have h2' : (hi : Int) < (n : Int) := by omega
      have HQ := hide hq
      have HZ := hide hz
      clear hq hz
      go_enter Tryd.func38, Tryd.ntmps38
      go_wp2_with fail
      refine (HBy.out _ HB0.out lo h1).mono ?_
      rintro e w5 ⟨v, rfl, ⟨b, rfl, hm⟩, hb5⟩
      obtain ⟨m, hm1, hm2⟩ := hm hi h2
      have HB5 := hide (HB0.out.trans (hb5.mono HB0.out.size))
      have HM2 := hide hm2
      clear hm hb5 hm2
      go_wp2_with fail
      go_ret
      refine ⟨⟨_, rfl, ?_⟩, HB5.out⟩
      simp only [Bool.or_eq_true, beq_iff_eq]
      rw [HM2.out]
      exact ⟨fun h => by
        rcases h with (h | h) | h
        · exact absurd h hq'
        · exact absurd h hz'
        · exact .inr (.inr h), fun h => by
        rcases h with h | h | h
        · exact absurd h HQ.out
        · exact absurd h HZ.out
        · exact .inr h⟩
end Go.Proofs.YtildjihgklgibaaDoor

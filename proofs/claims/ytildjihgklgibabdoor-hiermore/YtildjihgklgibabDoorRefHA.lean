/- What the page's At, has, SuperOf answer. -/
import Derived.Test.YtildjihgklgibabDoorMgA
import Derived.Test.YtildjihgklgibabDoorHierA
namespace Go.Proofs.YtildjihgklgibabDoor
open Go.RowKit
set_option linter.unusedVariables false
set_option linter.unusedSimpArgs false
namespace Hr
def placeI : Option Nat → Int
  | none => -1
  | some k => k
/-- The page's super: no text where there is none. -/
def superS (c : Pp.XCls) : Pp.Bs := (superL c).getD []
theorem superL_ne {c : Pp.XCls} {s : Pp.Bs} (h : superL c = some s) : s ≠ [] := by
  unfold superL at h
  split at h
  · cases h
  · split at h
    · cases h; decide
    · cases h; assumption
theorem superS_nil {c : Pp.XCls} (h : superS c = []) : superL c = none := by
  cases hs : superL c with
  | none => rfl
  | some s => unfold superS at h; rw [hs] at h; exact absurd h (superL_ne hs)
theorem superS_ne {c : Pp.XCls} (h : superS c ≠ []) : superL c = some (superS c) := by
  cases hs : superL c with
  | none => unfold superS at h; rw [hs] at h; exact absurd rfl h
  | some s => unfold superS; rw [hs]; rfl
end Hr

set_option maxRecDepth 100000 in
set_option maxHeartbeats 4000000 in
theorem RAt_any (l : List Pp.XCls) (v : Value) (n : Pp.Bs) (w : World) (h : RowX w 6 (ClsX w) v l) (hlen : l.length ≤ maxLen) :
    Calls Tryd.prog 6 #[v, .string ⟨n.toArray⟩] w fun e w' => e = .returned (.int .i64 (Hr.placeI (Hr.placeL l n))) ∧ Below w.heap.size w w' := by
  obtain ⟨pa, pc, rfl, _⟩ := h.len
  have H := hide h
  obtain ⟨m, hm⟩ : ∃ m, m = l.length := ⟨_, rfl⟩
  have HM := hide hm
  rw [← hm] at H hlen ⊢
  clear h hm
  have hmx : (m : Int) ≤ 9223372036854775807 := by unfold maxLen at hlen; omega
  go_enter Tryd.func6, Tryd.ntmps6
  go_wp2_with fail
  go_loopw [5] (fun i wr => ∃ k : Nat, k ≤ m ∧ i = .int .i64 k ∧ Below w.heap.size w wr ∧ Hid (∀ (j : Nat) (d : Pp.XCls), j < k → l[j]? = some d → d.name ≠ n)) (fun i _ => m - (intOf i).toNat)
  case atStart => exact ⟨0, by omega, rfl, Below.refl _ _, hide fun j d hj => absurd hj (Nat.not_lt_zero _)⟩
  case round =>
    obtain ⟨k, hk, rfl, hbw, hp⟩ := hrel
    by_cases hlt : k < m
    · obtain ⟨x, hx⟩ : ∃ x, l[k]? = some x := ⟨l[k]'(by rw [← HM.out]; exact hlt), List.getElem?_eq_getElem _⟩
      obtain ⟨g1, o1, rfl, ys1, w1', hc1⟩ := Hr.row_at H.out hx
      have hG := hide (hc1 wr hbw)
      clear hc1
      obtain ⟨vp, vc, vk, rfl, -⟩ := w1'
      have r0 := hG.out 0 _ rfl
      rw [Nat.add_zero] at r0
      clear hG
      have hlt' : (k : Int) < (m : Int) := by omega
      by_cases hn : x.name = n
      · have hr := hide (Hr.placeL_at hx hn hp.out)
        rw [hn] at r0
        clear hx hn
        generalize (⟨n.toArray⟩ : ByteArray) = y0 at *
        go_wp2_with fail
        go_ret
        rw [hr.out]
        exact ⟨rfl, hbw⟩
      · have hne : (x.name == n) = false := by simp [hn]
        have hr : Hid (∀ (j : Nat) (d : Pp.XCls), j < k + 1 → l[j]? = some d → d.name ≠ n) := hide fun j d hj hd => by
          rcases Nat.lt_or_eq_of_le (Nat.le_of_lt_succ hj) with h | rfl
          · exact hp.out j d h hd
          · rw [hx] at hd; cases hd; exact hn
        clear hx hn hp
        generalize x.name = y0 at *
        go_wp2_with fail
        go_roundw
        case rel => exact ⟨k + 1, by omega, by go_num, hbw, hr⟩
        case measure => simp [intOf]; omega
    · have hr : Hid (Hr.placeL l n = none) := hide (Hr.placeL_none.2 fun j d hd => hp.out j d (by have := (List.getElem?_eq_some_iff.1 hd).1; have := HM.out; omega) hd)
      go_wp2_with fail
      go_ret
      rw [hr.out]
      exact ⟨rfl, hbw⟩

set_option maxRecDepth 100000 in
set_option maxHeartbeats 4000000 in
theorem has_any (l : List Pp.Bs) (v : Value) (n : Pp.Bs) (w : World) (h : RowX w 1 StrX v l) (hlen : l.length ≤ maxLen) :
    Calls Tryd.prog 18 #[v, .string ⟨n.toArray⟩] w fun e w' => e = .returned (.bool (decide (n ∈ l))) ∧ Below w.heap.size w w' := by
  obtain ⟨pa, pc, rfl, _⟩ := h.len
  have H := hide h
  obtain ⟨m, hm⟩ : ∃ m, m = l.length := ⟨_, rfl⟩
  have HM := hide hm
  rw [← hm] at H hlen ⊢
  clear h hm
  have hmx : (m : Int) ≤ 9223372036854775807 := by unfold maxLen at hlen; omega
  obtain ⟨b, hb⟩ : ∃ b, b = decide (n ∈ l) := ⟨_, rfl⟩
  have HB := hide hb
  rw [← hb]
  clear hb
  go_enter Tryd.func18, Tryd.ntmps18
  go_wp2_with fail
  go_loopw [5] (fun i wr => ∃ k : Nat, k ≤ m ∧ i = .int .i64 k ∧ Below w.heap.size w wr ∧ Hid (n ∉ l.take k)) (fun i _ => m - (intOf i).toNat)
  case atStart => exact ⟨0, by omega, rfl, Below.refl _ _, hide (by simp)⟩
  case round =>
    obtain ⟨k, hk, rfl, hbw, hp⟩ := hrel
    by_cases hlt : k < m
    · obtain ⟨x, hx⟩ : ∃ x, l[k]? = some x := ⟨l[k]'(by rw [← HM.out]; exact hlt), List.getElem?_eq_getElem _⟩
      obtain ⟨g1, o1, rfl, ys1, w1', hc1⟩ := Hr.row_at H.out hx
      obtain rfl : ys1 = _ := w1'.1
      have r0 := hc1 wr hbw 0 _ rfl
      rw [Nat.add_zero, Nat.mul_one] at r0
      have hlt' : (k : Int) < (m : Int) := by omega
      clear hc1 w1'
      by_cases hn : x = n
      · have hr : Hid (b = true) := hide (by rw [HB.out, decide_eq_true_eq, ← hn]; exact List.mem_of_getElem? hx)
        rw [hn] at r0
        clear hx hn
        generalize (⟨n.toArray⟩ : ByteArray) = y0 at *
        go_wp2_with fail
        go_ret
        rw [hr.out]
        exact ⟨rfl, hbw⟩
      · have hne : (x == n) = false := by simp [hn]
        have hr : Hid (n ∉ l.take (k + 1)) := hide (by
          rw [List.take_add_one, hx, List.mem_append]
          rintro (h | h)
          · exact hp.out h
          · simp at h; exact hn h.symm)
        clear hx hn hp
        go_wp2_with fail
        go_roundw
        case rel => exact ⟨k + 1, by omega, by go_num, hbw, hr⟩
        case measure => simp [intOf]; omega
    · have hr : Hid (b = false) := hide (by
        have := hp.out
        rw [List.take_of_length_le (by rw [← HM.out]; omega)] at this
        rw [HB.out]; simpa using this)
      go_wp2_with fail
      go_ret
      rw [hr.out]
      exact ⟨rfl, hbw⟩

set_option maxRecDepth 100000 in
set_option maxHeartbeats 4000000 in
theorem RSuper_any (c : Pp.XCls) (ys : List Value) (w : World) (h : ClsX w c ys) :
    Calls Tryd.prog 16 #[.agg ys.toArray] w fun e w' => e = .returned (.string ⟨(Hr.superS c).toArray⟩) ∧ Below w.heap.size w w' := by
  obtain ⟨vp, vc, vk, rfl, p1, i1, k1, z1⟩ := h
  clear p1 i1 k1
  simp only [clsXL, List.toArray]
  by_cases hi : c.iface = true
  · have hr : Hid (Hr.superS c = []) := hide (by simp [Hr.superS, Hr.superL, hi])
    rw [hi]
    generalize (⟨c.name.toArray⟩ : ByteArray) = y0
    generalize (⟨c.super.toArray⟩ : ByteArray) = y2
    rw [hr.out]
    go_enter Tryd.func16, Tryd.ntmps16
    go_wp2
    go_ret
    exact ⟨rfl, (Below.refl _ _).alloc (Nat.le_refl _) _⟩
  · have hi' : c.iface = false := by simpa using hi
    by_cases hn : c.name = Hr.objN
    · have hr : Hid (Hr.superS c = []) := hide (by simp [Hr.superS, Hr.superL, hn])
      rw [hi', hn, hr.out]
      generalize (⟨c.super.toArray⟩ : ByteArray) = y2
      go_enter Tryd.func16, Tryd.ntmps16
      go_wp2
      go_ret
      exact ⟨rfl, (Below.refl _ _).alloc (Nat.le_refl _) _⟩
    · have hne : (c.name == Hr.objN) = false := by simp [hn]
      simp only [Hr.objN] at hne
      by_cases hs : c.super = []
      · have hr : Hid (Hr.superS c = Hr.objN) := hide (by simp [Hr.superS, Hr.superL, hn, hi', hs])
        rw [hi', hs, hr.out]
        generalize c.name = y0 at *
        go_enter Tryd.func16, Tryd.ntmps16
        go_wp2
        go_ret
        exact ⟨rfl, (Below.refl _ _).alloc (Nat.le_refl _) _⟩
      · have hse : (c.super == []) = false := by simp [hs]
        have hr : Hid (Hr.superS c = c.super) := hide (by simp [Hr.superS, Hr.superL, hn, hi', hs])
        rw [hi', hr.out]
        clear hr hs hn
        generalize c.name = y0 at *
        generalize c.super = y2 at *
        go_enter Tryd.func16, Tryd.ntmps16
        go_wp2
        go_ret
        exact ⟨rfl, (Below.refl _ _).alloc (Nat.le_refl _) _⟩
end Go.Proofs.YtildjihgklgibabDoor

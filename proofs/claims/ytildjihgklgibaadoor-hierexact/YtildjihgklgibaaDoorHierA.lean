/- What superOf, place, twice answer. -/
import Derived.Test.YtildjihgklgibaaDoorMgA
import Derived.Test.YtildjihgklgibaaDoorMemX
namespace Go.Proofs.YtildjihgklgibaaDoor
open Go.RowKit
set_option linter.unusedVariables false
set_option linter.unusedSimpArgs false

namespace Hr
theorem row_at {α : Type} {W : World} {sz : Nat} {P : α → List Value → Prop} {a : Option Addr} {n c : Nat} {l : List α} (h : RowX W sz P (.slice a n c) l) {k : Nat} {x : α} (hx : l[k]? = some x) : ∃ b o, a = some ⟨b, o, none⟩ ∧ ∃ ys, P x ys ∧ ∀ wx, Below W.heap.size W wx → ∀ (j : Nat) (u : Value), ys[j]? = some u → wx.cell? ⟨b, o + k * sz + j, none⟩ = some u := by
  obtain ⟨a', c', e, hc, h⟩ := h
  injection e with e1 e2 e3
  subst e1
  rcases h with rfl | ⟨b, o, rfl, hlt, hr⟩
  · simp at hx
  · obtain ⟨ys, h1, h2⟩ := hr k x hx
    exact ⟨b, o, rfl, ys, h1, fun wx hb j u hj => (hb.cell (by exact hlt)).trans (h2 j u hj)⟩
end Hr

set_option maxRecDepth 100000 in
set_option maxHeartbeats 4000000 in
theorem superOf_any (c : Pp.XCls) (ys : List Value) (w : World) (h : ClsX w c ys) :
    Calls Tryd.prog 36 #[.agg ys.toArray] w fun e w' => e = .returned (.tuple #[.string ⟨(Hr.pairS (Hr.superL c)).1.toArray⟩, .bool (Hr.pairS (Hr.superL c)).2]) ∧ Below w.heap.size w w' := by
  obtain ⟨vp, vc, vk, rfl, p1, i1, k1, z1⟩ := h
  clear p1 i1 k1
  simp only [clsXL, List.toArray]
  by_cases hi : c.iface = true
  · have hr : Hid (Hr.superL c = none) := hide (by simp [Hr.superL, hi])
    rw [hi]
    generalize (⟨c.name.toArray⟩ : ByteArray) = y0
    generalize (⟨c.super.toArray⟩ : ByteArray) = y2
    rw [hr.out]
    go_enter Tryd.func36, Tryd.ntmps36
    go_wp2
    go_ret2
    exact ⟨rfl, (Below.refl _ _).alloc (Nat.le_refl _) _⟩
  · have hi' : c.iface = false := by simpa using hi
    by_cases hn : c.name = Hr.objN
    · have hr : Hid (Hr.superL c = none) := hide (by simp [Hr.superL, hn])
      rw [hi', hn, hr.out]
      generalize (⟨c.super.toArray⟩ : ByteArray) = y2
      go_enter Tryd.func36, Tryd.ntmps36
      go_wp2
      go_ret2
      exact ⟨rfl, (Below.refl _ _).alloc (Nat.le_refl _) _⟩
    · have hne : (c.name == Hr.objN) = false := by simp [hn]
      simp only [Hr.objN] at hne
      by_cases hs : c.super = []
      · have hr : Hid (Hr.superL c = some Hr.objN) := hide (by simp [Hr.superL, hn, hi', hs])
        rw [hi', hs, hr.out]
        generalize c.name = y0 at *
        go_enter Tryd.func36, Tryd.ntmps36
        go_wp2
        go_ret2
        exact ⟨rfl, (Below.refl _ _).alloc (Nat.le_refl _) _⟩
      · have hse : (c.super == []) = false := by simp [hs]
        have hr : Hid (Hr.superL c = some c.super) := hide (by simp [Hr.superL, hn, hi', hs])
        rw [hi', hr.out]
        simp only [Hr.pairS]
        clear hr hs hn
        generalize c.name = y0 at *
        generalize c.super = y2 at *
        go_enter Tryd.func36, Tryd.ntmps36
        go_wp2
        go_ret2
        exact ⟨rfl, (Below.refl _ _).alloc (Nat.le_refl _) _⟩

set_option maxRecDepth 100000 in
set_option maxHeartbeats 4000000 in
theorem place_any (l : List Pp.XCls) (v : Value) (n : Pp.Bs) (w : World) (h : RowX w 6 (ClsX w) v l) (hlen : l.length ≤ maxLen) :
    Calls Tryd.prog 37 #[v, .string ⟨n.toArray⟩] w fun e w' => e = .returned (.tuple #[.int .i64 (Hr.pairP (Hr.placeL l n)).1, .bool (Hr.pairP (Hr.placeL l n)).2]) ∧ Below w.heap.size w w' := by
  obtain ⟨pa, pc, rfl, _⟩ := h.len
  have H := hide h
  obtain ⟨m, hm⟩ : ∃ m, m = l.length := ⟨_, rfl⟩
  have HM := hide hm
  rw [← hm] at H hlen ⊢
  clear h hm
  have hmx : (m : Int) ≤ 9223372036854775807 := by unfold maxLen at hlen; omega
  go_enter Tryd.func37, Tryd.ntmps37
  go_wp2_with fail
  go_loopw [10] (fun i wr => ∃ k : Nat, k ≤ m ∧ i = .int .i64 k ∧ Below w.heap.size w wr ∧ Hid (∀ (j : Nat) (d : Pp.XCls), j < k → l[j]? = some d → d.name ≠ n)) (fun i _ => m - (intOf i).toNat)
  case atStart => exact ⟨0, by omega, rfl, Below.refl _ _, hide fun j d hj => absurd hj (Nat.not_lt_zero _)⟩
  case round =>
    obtain ⟨k, hk, rfl, hbw, hp⟩ := hrel
    by_cases hlt : k < m
    · obtain ⟨x, hx⟩ : ∃ x, l[k]? = some x := ⟨l[k]'(by rw [← HM.out]; exact hlt), List.getElem?_eq_getElem _⟩
      obtain ⟨g1, o1, rfl, ys1, w1', hc1⟩ := Hr.row_at H.out hx
      have hG := hide (hc1 wr hbw)
      clear hc1
      obtain ⟨vp, vc, vk, rfl, x1, x2, x3, _⟩ := w1'
      obtain ⟨va1, vd1, rfl, _⟩ := x1.len
      obtain ⟨va2, vd2, rfl, _⟩ := x2.len
      obtain ⟨va3, vd3, rfl, _⟩ := x3.len
      clear x1 x2 x3
      have r0 := hG.out 0 _ rfl
      have r1 := hG.out 1 _ rfl
      have r2 := hG.out 2 _ rfl
      have r3 := hG.out 3 _ rfl
      have r4 := hG.out 4 _ rfl
      have r5 := hG.out 5 _ rfl
      rw [Nat.add_zero] at r0
      clear hG
      have hlt' : (k : Int) < (m : Int) := by omega
      generalize x.iface = y1 at *
      generalize (⟨x.super.toArray⟩ : ByteArray) = y2 at *
      generalize x.ifaces.length = n1 at *
      generalize x.fields.length = n2 at *
      generalize x.methods.length = n3 at *
      by_cases hn : x.name = n
      · have hr := hide (Hr.placeL_at hx hn hp.out)
        rw [hn] at r0
        clear hx hn
        go_wp2
        go_ret2
        rw [hr.out]
        exact ⟨rfl, hbw.alloc hbw.size _⟩
      · have hne : (x.name == n) = false := by simp [hn]
        have hr : Hid (∀ (j : Nat) (d : Pp.XCls), j < k + 1 → l[j]? = some d → d.name ≠ n) := hide fun j d hj hd => by
          rcases Nat.lt_or_eq_of_le (Nat.le_of_lt_succ hj) with h | rfl
          · exact hp.out j d h hd
          · rw [hx] at hd; cases hd; exact hn
        clear hx hn hp
        generalize x.name = y0 at *
        go_wp2
        go_roundw
        case rel => exact ⟨k + 1, by omega, by go_num, hbw.alloc hbw.size _, hr⟩
        case measure => simp [intOf]; omega
    · have hr : Hid (Hr.placeL l n = none) := hide (Hr.placeL_none.2 fun j d hd => hp.out j d (by have := (List.getElem?_eq_some_iff.1 hd).1; have := HM.out; omega) hd)
      go_wp2
      go_ret2
      rw [hr.out]
      exact ⟨rfl, hbw⟩

set_option maxRecDepth 100000 in
set_option maxHeartbeats 4000000 in
theorem twice_any (l : List Pp.XCls) (v : Value) (w : World) (h : RowX w 6 (ClsX w) v l) (hlen : l.length ≤ maxLen) :
    Calls Tryd.prog 55 #[v] w fun e w' => e = .returned (.bool (!Hr.oneB l)) ∧ Below w.heap.size w w' := by
  have HP := hide (fun (n : Pp.Bs) wx (hb : Below w.heap.size w wx) => place_any l v n wx (h.on hb fun _ _ h => h.on hb) hlen)
  obtain ⟨pa, pc, rfl, _⟩ := h.len
  have H := hide h
  obtain ⟨m, hm⟩ : ∃ m, m = l.length := ⟨_, rfl⟩
  have HM := hide hm
  rw [← hm] at H hlen HP ⊢
  clear h hm
  have hmx : (m : Int) ≤ 9223372036854775807 := by unfold maxLen at hlen; omega
  go_enter Tryd.func55, Tryd.ntmps55
  go_wp2_with fail
  go_loopw [9] (fun i wr => ∃ k : Nat, k ≤ m ∧ i = .int .i64 k ∧ Below w.heap.size w wr ∧ Hid (∀ (j : Nat) (d : Pp.XCls), j < k → l[j]? = some d → Hr.placeL l d.name = some j)) (fun i _ => m - (intOf i).toNat)
  case atStart => exact ⟨0, by omega, rfl, Below.refl _ _, hide fun j d hj => absurd hj (Nat.not_lt_zero _)⟩
  case round =>
    obtain ⟨k, hk, rfl, hbw, hp⟩ := hrel
    by_cases hlt : k < m
    · obtain ⟨x, hx⟩ : ∃ x, l[k]? = some x := ⟨l[k]'(by rw [← HM.out]; exact hlt), List.getElem?_eq_getElem _⟩
      obtain ⟨g1, o1, rfl, ys1, w1', hc1⟩ := Hr.row_at H.out hx
      have hG := hide (hc1 wr hbw)
      clear hc1
      obtain ⟨vp, vc, vk, rfl, x1, x2, x3, _⟩ := w1'
      obtain ⟨va1, vd1, rfl, _⟩ := x1.len
      obtain ⟨va2, vd2, rfl, _⟩ := x2.len
      obtain ⟨va3, vd3, rfl, _⟩ := x3.len
      clear x1 x2 x3
      have r0 := hG.out 0 _ rfl
      have r1 := hG.out 1 _ rfl
      have r2 := hG.out 2 _ rfl
      have r3 := hG.out 3 _ rfl
      have r4 := hG.out 4 _ rfl
      have r5 := hG.out 5 _ rfl
      rw [Nat.add_zero] at r0
      clear hG
      have hlt' : (k : Int) < (m : Int) := by omega
      have HC := hide (fun wx (hb : Below w.heap.size w wx) => HP.out x.name wx hb)
      have hst : Hid (Hr.placeL l x.name = some k → ∀ (j : Nat) (d : Pp.XCls), j < k + 1 → l[j]? = some d → Hr.placeL l d.name = some j) := hide fun he j d hj hd => by
          rcases Nat.lt_or_eq_of_le (Nat.le_of_lt_succ hj) with h | rfl
          · exact hp.out j d h hd
          · rw [hx] at hd; cases hd; exact he
      have hpl : ∃ q c, Hr.placeL l x.name = some q ∧ l[q]? = some c ∧ q ≤ k := by
        cases hq : Hr.placeL l x.name with
        | none => exact absurd rfl (Hr.placeL_none.1 hq k x hx)
        | some q =>
          obtain ⟨c, h1, h2, h3⟩ := Hr.placeL_lt hq
          refine ⟨q, c, rfl, h1, ?_⟩
          rcases Nat.lt_or_ge k q with h | h
          · exact absurd rfl (h3 k x h hx)
          · exact h
      obtain ⟨q, cq, hq, _, hqk⟩ := hpl
      have hno : Hid (q ≠ k → Hr.oneB l = false) := hide fun hne => by
        cases hb : Hr.oneB l with
        | false => rfl
        | true =>
          have := (Hr.oneB_iff l).1 hb k x hx
          rw [hq] at this
          cases this
          exact absurd rfl hne
      rw [hq] at hst
      have HQ : Hid (∀ wx, Below w.heap.size w wx → Calls Tryd.prog 37 #[.slice (some ⟨g1, o1, none⟩) m pc, .string ⟨x.name.toArray⟩] wx fun e w' => e = .returned (.tuple #[.int .i64 q, .bool true]) ∧ Below wx.heap.size wx w') := hide fun wx hb => by
        have := HC.out wx hb
        rw [hq] at this
        exact this
      clear HC hq hx
      generalize (⟨x.name.toArray⟩ : ByteArray) = y0 at *
      generalize x.iface = y1 at *
      generalize (⟨x.super.toArray⟩ : ByteArray) = y2 at *
      generalize x.ifaces.length = n1 at *
      generalize x.fields.length = n2 at *
      generalize x.methods.length = n3 at *
      have HB := hide hbw
      by_cases hne : q = k
      · have hr := hst.out (by rw [hne])
        subst hne
        clear hst hno
        go_wp2_with fail
        refine (HQ.out _ (HB.out.alloc HB.out.size _)).mono ?_
        rintro e wq ⟨rfl, hbq⟩
        have HW := hide ((HB.out.alloc HB.out.size (.cells #[.string y0, .bool y1, .string y2, .slice va1 n1 vd1, .slice va2 n2 vd2, .slice va3 n3 vd3] 33)).trans (hbq.mono (HB.out.alloc HB.out.size _).size))
        clear HQ hbq HB hbw
        go_wp2_with fail
        go_roundw
        case rel => exact ⟨q + 1, by omega, by go_num, HW.out, hide hr⟩
        case measure => simp [intOf]; omega
      · have hr := hide (hno.out hne)
        have hne' : (q : Int) ≠ (k : Int) := by omega
        clear hst hno
        go_wp2_with fail
        refine (HQ.out _ (HB.out.alloc HB.out.size _)).mono ?_
        rintro e wq ⟨rfl, hbq⟩
        have HW := hide ((HB.out.alloc HB.out.size (.cells #[.string y0, .bool y1, .string y2, .slice va1 n1 vd1, .slice va2 n2 vd2, .slice va3 n3 vd3] 33)).trans (hbq.mono (HB.out.alloc HB.out.size _).size))
        clear HQ hbq HB hbw
        go_wp2_with fail
        go_ret
        rw [hr.out]
        exact ⟨rfl, HW.out⟩
    · have hr : Hid (Hr.oneB l = true) := hide ((Hr.oneB_iff l).2 fun j d hd => hp.out j d (by have := (List.getElem?_eq_some_iff.1 hd).1; have := HM.out; omega) hd)
      go_wp2
      go_ret
      rw [hr.out]
      exact ⟨rfl, hbw⟩
end Go.Proofs.YtildjihgklgibaaDoor

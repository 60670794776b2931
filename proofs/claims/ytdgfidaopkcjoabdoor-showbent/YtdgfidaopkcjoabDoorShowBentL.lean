/- ShowBent: the walk. -/
import Derived.Test.YtdgfidaopkcjoabDoorShowU
import Derived.Test.YtdgfidaopkcjoabDoorHeavyX
import Derived.Test.YtdgfidaopkcjoabDoorShownD
import Derived.Test.YtdgfidaopkcjoabDoorTwinD
import Derived.Test.YtdgfidaopkcjoabDoorShowBentP
import Derived.Test.YtdgfidaopkcjoabDoorCellsO
import Derived.Deep.RegionHeld3
import Derived.Deep.Cut
namespace Go.Proofs.YtdgfidaopkcjoabDoor
open Go.RowKit
set_option linter.unusedVariables false
set_option linter.unusedSimpArgs false
theorem mod_lenShowBent (n : Int) (c : Nat) (hc : 0 < c) (hc2 : c ≤ 100000) : ∃ m : Nat, m < c ∧ IntKind.i64.wrap ((IntKind.u64.wrap n).tmod (c : Int)) = (m : Int) := by
  have h0 : 0 ≤ IntKind.u64.wrap n := by
    rw [IntKind.wrap_u64]; omega
  generalize IntKind.u64.wrap n = u at h0
  have h1 : 0 ≤ u.tmod (c : Int) := Int.tmod_nonneg _ h0
  have h2 : u.tmod (c : Int) < (c : Int) := Int.tmod_lt_of_pos _ (by omega)
  generalize u.tmod (c : Int) = r at h1 h2
  refine ⟨r.toNat, by omega, ?_⟩
  simp only [IntKind.wrap, IntKind.bits, IntKind.signed]
  simp
  omega

namespace Ow
theorem Flat.put1 {α : Type} {P : α → List Value → Prop} {sz : Nat} (hs : Shp P sz) {x x' : α} {j : Nat} {u : Value} (hp : ∀ a, P x a → P x' (a.set j u)) (hj : j < sz) : ∀ {l : List α} {ys : List Value} (i : Nat), Flat P l ys → l[i]? = some x → Flat P (l.set i x') (ys.set (i * sz + j) u)
  | [], _, i, _, h => by simp at h
  | y :: l, _, 0, ⟨a, b, e, hx, hl⟩, h => by
    simp at h; subst h; subst e
    rw [Nat.zero_mul, Nat.zero_add, List.set_append_left _ _ (by rw [(hs _ _ hx).1]; exact hj)]
    exact ⟨_, b, rfl, hp a hx, hl⟩
  | y :: l, _, i + 1, ⟨a, b, e, hx, hl⟩, h => by
    subst e
    rw [show (i + 1) * sz + j = a.length + (i * sz + j) from by rw [(hs _ _ hx).1, Nat.succ_mul]; omega, List.set_append_right _ _ (Nat.le_add_right _ _), Nat.add_sub_cancel_left]
    exact ⟨a, _, rfl, hx, Flat.put1 hs hp hj i hl (by simpa using h)⟩
/-- One cell of an item put over another. -/
theorem OwnX.put1 {α : Type} {P : α → List Value → Prop} {sz base e g n c : Nat} {w : World} {l : List α} (h : OwnX w base e sz P (.slice (some ⟨g, 0, none⟩) n c) l) (hs : Shp P sz) {i j : Nat} {x x' : α} {u : Value} (hx : l[i]? = some x) (hj : j < sz) (hp : ∀ a, P x a → P x' (a.set j u)) : OwnX (w.setCell ⟨g, i * sz + j, none⟩ u) base e sz P (.slice (some ⟨g, 0, none⟩) n c) (l.set i x') := by
  obtain ⟨news, hf, h1, h2⟩ := h
  rcases h2 with ⟨e0, _⟩ | ⟨g', cap, cur, e0, hb, hg, hnc, hm, hcs, htk⟩
  · cases e0
  · cases e0
    obtain ⟨c', k1, k2, k3⟩ := blk_setCells [u] (i * sz + j) hg
    refine ⟨news.set (i * sz + j) u, hf.put1 hs hp hj i hx, by rw [List.length_set, h1, List.length_set], .inr ⟨g, c, c', by rw [List.length_set], hb, k1, by rw [List.length_set]; exact hnc, hm, by rw [k2, hcs], ?_⟩⟩
    rw [k3]
    show (setLL cur.toList (i * sz + j) [u]).take _ = setLL news (i * sz + j) [u]
    rw [take_setLL, List.length_set, htk]
end Ow
theorem how5 (n : Int) : ∃ r : Int, (IntKind.u64.wrap n).tmod 5 = r ∧ (r = 0 ∨ r = 1 ∨ r = 2 ∨ r = 3 ∨ r = 4) := by
  have h0 : 0 ≤ IntKind.u64.wrap n := by rw [IntKind.wrap_u64]; omega
  generalize IntKind.u64.wrap n = u at h0
  have h1 : 0 ≤ u.tmod 5 := Int.tmod_nonneg _ h0
  have h2 : u.tmod 5 < 5 := Int.tmod_lt_of_pos _ (by omega)
  exact ⟨_, rfl, by omega⟩

theorem setCell_far {w : World} {g k o : Nat} (u : Value) (h : k ≠ g) : (w.setCell ⟨g, o, none⟩ u).heap[k]? = w.heap[k]? := by
  rw [Below.heap_setCell _ _ _ _ h]
theorem put_cls {w : World} {base g n tc i j : Nat} {cs : List Pp.XCls} {x x' : Pp.XCls} {u : Value} {cur : Array Value} (h : Ow.ProgO w base (.slice (some ⟨g, 0, none⟩) n tc) cs) (hG : w.heap[g]? = some (.cells cur 32 (0, 0))) (hx : cs[i]? = some x) (hj : j < 6) (hp : ∀ a, Ow.ClsO w base x a → Ow.ClsO w base x' (a.set j u)) :
    Ow.ProgO (w.setCell ⟨g, i * 6 + j, none⟩ u) base (.slice (some ⟨g, 0, none⟩) n tc) (cs.set i x') := by
  have hK : Ow.Kx 32 w (w.setCell ⟨g, i * 6 + j, none⟩ u) := Ow.Kx.set (t := 32) ⟨_, _, hG⟩ (i * 6 + j) u
  have h1 : Ow.OwnX (w.setCell ⟨g, i * 6 + j, none⟩ u) base 32 6 (Ow.ClsO w base) (.slice (some ⟨g, 0, none⟩) n tc) (cs.set i x') := Ow.OwnX.put1 h.1 Ow.shp_cls hx hj hp
  exact ⟨h1.low (Nat.le_refl _) fun _ _ h => h.kx hK (by decide) (by decide) (by decide) (by decide) (by decide) (by decide), by rw [List.length_set]; exact h.2⟩

set_option maxRecDepth 100000 in
set_option maxHeartbeats 16000000 in
theorem showBent_walk (v : Value) (cs : List Pp.XCls) (a b : Int) (w : World) (ht : TabS w) (hp : Tab w) (hg : 3 < w.heap.size ∧ 2 < w.heap.size ∧ 0 < w.heap.size) (h : ProgX w v cs) :
    Calls Tryd.prog 3 #[.agg #[v], .int .i64 a, .int .i64 b] w fun e w' => e = .returned (.bool true) ∧ Below w.heap.size w w' := by
  have HT0 : Hid (Sh.Tabs w.heap.size w) := hide ⟨ht, hp, hg⟩
  have HT : Hid (∀ wx, Below w.heap.size w wx → TabS wx ∧ Tab wx ∧ 3 < wx.heap.size ∧ 2 < wx.heap.size ∧ 0 < wx.heap.size) := hide fun wx hb => ⟨(HT0.out.on hb).ws, (HT0.out.on hb).pw, by have := (HT0.out.on hb).hB; have := hb.size; omega⟩
  have HP := hide (fun wx (hb : Below w.heap.size w wx) => h.on hb)
  obtain ⟨pa, pc, rfl, _⟩ := h.1.len
  obtain ⟨n, hn'⟩ : ∃ n, n = cs.length := ⟨_, rfl⟩
  have HN := hide hn'
  rw [← hn'] at HP ⊢
  clear h ht hp hg hn' HT0
  have hx0 := hide (heap_alloc_new w (.cells #[.slice pa n pc] 24))
  have HB0 := hide ((Below.refl w.heap.size w).alloc (Nat.le_refl _) (.cells #[.slice pa n pc] 24))
  go_enter Tryd.func3, Tryd.ntmps3
  go_wp2_with fail
  generalize w.alloc (.cells #[.slice pa n pc] 24) = w0 at *
  have HC : Hid (∀ wx, Below w0.heap.size w0 wx → wx.cell? ⟨w.heap.size, 0, none⟩ = some (.slice pa n pc)) := hide fun wx hb => cell_box ((hb.block _ (Ow.lt_of_blk hx0.out)).trans hx0.out) 0
  have HW : Hid (∀ wx, Below w0.heap.size w0 wx → Below w.heap.size w wx) := hide fun wx hb => HB0.out.trans (hb.mono HB0.out.size)
  clear hx0
  refine (Heavy_any cs _ w0 (HP.out w0 HB0.out)).mono ?_
  rintro e w1 ⟨⟨b1, rfl, hlb⟩, hb1⟩
  have HB1 := hide hb1
  clear hb1
  cases b1 with
  | true =>
    go_wp2_with fail
    go_ret
    exact ⟨rfl, HW.out _ HB1.out⟩
  | false =>
    have HLt := hide (hlb rfl)
    have c1 := HC.out w1 HB1.out
    clear hlb
    go_wp2_with fail
    refine (Shown_any cs _ w1 (HP.out _ (HW.out _ HB1.out))).mono ?_
    rintro e w2 ⟨rfl, hb2⟩
    have HB2 := hide (HB1.out.trans (hb2.mono HB1.out.size))
    have c2 := HC.out w2 HB2.out
    clear hb2 c1
    cases hE : Pp.progB cs with
    | false =>
      go_wp2_with fail
      go_ret
      exact ⟨rfl, HW.out _ HB2.out⟩
    | true =>
    have HE := hide hE
    clear hE
    by_cases hn0 : n = 0
    · have hn0' : (n : Int) = 0 := by omega
      go_wp2_with fail
      go_ret
      exact ⟨rfl, HW.out _ HB2.out⟩
    have hn0' : ¬ ((n : Int) = 0) := by omega
    have hz0 : ((n : Int) == 0) = false := by simp; omega
    have hn14 : n ≤ 14 := by rw [HN.out]; exact HLt.out.1
    go_wp2_with fail
    refine (TwinProgram_any cs _ w2 (HP.out _ (HW.out _ HB2.out)) HLt.out).mono ?_
    rintro e w4 ⟨vt, rfl, hpt, hb4⟩
    have HB4 := hide (HB2.out.trans (hb4.mono HB2.out.size))
    obtain ⟨g, tc, cur, rfl, hgb, hgc, hcl⟩ := hpt.1.cells Ow.shp_cls (by rw [← HN.out]; omega)
    rw [← HN.out] at hpt ⊢
    have HGb : Hid (w0.heap.size ≤ g) := hide (Nat.le_trans HB2.out.size hgb)
    have hA := (Below.refl w4.heap.size w4).alloc (Nat.le_refl _) (.cells #[.slice (some ⟨g, 0, none⟩) n tc] 24)
    have HQ5 := hide (heap_alloc_new w4 (.cells #[.slice (some ⟨g, 0, none⟩) n tc] 24))
    have HG5 := hide ((hA.block _ (Ow.lt_of_blk hgc)).trans hgc)
    have HO5 := hide ((hpt.1.on hA fun _ _ h => h.on hA (Nat.le_refl _)).low (base' := w0.heap.size) HB2.out.size fun _ _ h => h.on (Below.refl _ _) HB2.out.size)
    have HB5 := hide (HB4.out.trans (hA.mono HB4.out.size))
    have HCl := hide (fun k x (h : cs[k]? = some x) => hcl k x h)
    have hq0 := cell_box HQ5.out 0
    obtain ⟨i, hi, HI⟩ := mod_lenShowBent a n (by omega) (by omega)
    obtain ⟨r, hr, hr5⟩ := how5 b
    have hwn : IntKind.u64.wrap (n : Int) = (n : Int) := by rw [IntKind.wrap_u64]; omega
    have hi' : (i : Int) < (n : Int) := by omega
    obtain ⟨c, hc⟩ : ∃ c, cs[i]? = some c := ⟨cs[i]'(by rw [← HN.out]; exact hi), List.getElem?_eq_getElem _⟩
    have HIc := hide hc
    have hn00 : ¬ n = 0 := hn0
    have HX4 : Hid (w4.heap.size < w4.heap.size + 1) := hide (Nat.lt_succ_self _)
    have HPO4 := hide hpt
    obtain ⟨v3, vf, vm, v4, uf, um, v5, tf, tm, HNm⟩ : ∃ v3 vf vm v4 uf um v5 tf tm, Hid ((∀ wx, Below w4.heap.size w4 wx → wx.cell? ⟨g, i * 6, none⟩ = some (.string ⟨c.name.toArray⟩) ∧ wx.cell? ⟨g, i * 6 + 1, none⟩ = some (.bool c.iface) ∧ wx.cell? ⟨g, i * 6 + 2, none⟩ = some (.string ⟨c.super.toArray⟩) ∧ wx.cell? ⟨g, i * 6 + 3, none⟩ = some (.slice v3 vf vm) ∧ wx.cell? ⟨g, i * 6 + 4, none⟩ = some (.slice v4 uf um) ∧ wx.cell? ⟨g, i * 6 + 5, none⟩ = some (.slice v5 tf tm)) ∧ Ow.OwnX w4 w2.heap.size 42 9 (Ow.MthO w4 w2.heap.size) (.slice v5 tf tm) c.methods) := by
      obtain ⟨ys, ⟨vp, vc, vk, rfl, p1, p2, p3, _⟩, hcc⟩ := HCl.out i c hc
      obtain ⟨a3, n3, rfl⟩ := p1.shape
      obtain ⟨a4, n4, rfl⟩ := p2.shape
      obtain ⟨a5, n5, rfl⟩ := p3.shape
      exact ⟨a3, _, n3, a4, _, n4, a5, _, n5, hide ⟨fun wx hb => ⟨(hb.cell (p := ⟨g, i * 6, none⟩) (Ow.lt_of_blk hgc)).trans (hcc 0 _ rfl), (hb.cell (p := ⟨g, i * 6 + 1, none⟩) (Ow.lt_of_blk hgc)).trans (hcc 1 _ rfl), (hb.cell (p := ⟨g, i * 6 + 2, none⟩) (Ow.lt_of_blk hgc)).trans (hcc 2 _ rfl), (hb.cell (p := ⟨g, i * 6 + 3, none⟩) (Ow.lt_of_blk hgc)).trans (hcc 3 _ rfl), (hb.cell (p := ⟨g, i * 6 + 4, none⟩) (Ow.lt_of_blk hgc)).trans (hcc 4 _ rfl), (hb.cell (p := ⟨g, i * 6 + 5, none⟩) (Ow.lt_of_blk hgc)).trans (hcc 5 _ rfl)⟩, p3⟩⟩
    have HA := hide hA
    clear hb4 hpt hgb hcl c2 hc HX4
    go_upto_region 4 with fail
    generalize w4.alloc (.cells #[.slice (some ⟨g, 0, none⟩) n tc] 24) = w5 at *
    have hK : Hid (∀ wx, Below w5.heap.size w5 wx → wx.cell? ⟨w4.heap.size, 0, none⟩ = some (.slice (some ⟨g, 0, none⟩) n tc)) := hide fun wx hb => cell_box ((hb.block _ (Ow.lt_of_blk HQ5.out)).trans HQ5.out) 0
    have hD : Hid (Below w5.heap.size w5 w5.drew) := hide (Below.drew (Below.refl _ _))
    have hI2 : IntKind.i64.wrap ((IntKind.u64.wrap a).tmod (n : Int)) = (i : Int) := HI
    have hi0 : (0 : Int) ≤ (i : Int) := Int.natCast_nonneg _
    have hil : i < n := hi
    go_region_held3 (fun wx => wx.cell? ⟨w4.heap.size, 0, none⟩ = some (.slice (some ⟨g, 0, none⟩) n tc)) (exact hK.out _ hD.out) (fail)
    have HA6 := hide (HA.out.trans (hD.out.mono HA.out.size))
    have HB6 := hide (HB5.out.trans (hD.out.mono HB5.out.size))
    have HQ6 := hide ((hD.out.block _ (Ow.lt_of_blk HQ5.out)).trans HQ5.out)
    have HG6 := hide ((hD.out.block _ (Ow.lt_of_blk HG5.out)).trans HG5.out)
    have HO6 : Hid (Ow.ProgO w5.drew w0.heap.size (.slice (some ⟨g, 0, none⟩) n tc) cs) := hide ((HPO4.out.on HA.out (Nat.le_refl _)).on hD.out HB2.out.size)
    obtain ⟨r0, r1, r2, r3, r4, r5⟩ := HNm.out.1 _ HA6.out
    have HX6 : Hid (w5.heap.size = w5.drew.heap.size) := hide rfl
    clear hD hK hq0 hA
    generalize w5.drew = w6 at *
    rcases hr5 with rfl | rfl | rfl | rfl | rfl
    · have hA7 : Below w6.heap.size w6 (w6.alloc (.cells #[.string ⟨#[]⟩, .int .i64 2, .string ⟨#[]⟩, .bool false] 37)) := (Below.refl _ _).alloc (Nat.le_refl _) _
      have HB7 := hide (HB6.out.trans (hA7.mono HB6.out.size))
      have HQ7 := hide ((hA7.block _ (Ow.lt_of_blk HQ6.out)).trans HQ6.out)
      have HG7 := hide ((hA7.block _ (Ow.lt_of_blk HG6.out)).trans HG6.out)
      have HO7 := hide (HO6.out.on hA7 (Nat.le_refl _))
      have HNw := hide (heap_alloc_new w6 (.cells #[.string ⟨#[]⟩, .int .i64 2, .string ⟨#[]⟩, .bool false] 37))
      obtain ⟨s0, s1, s2, s3, s4, s5⟩ := HNm.out.1 _ (HA6.out.trans (hA7.mono HA6.out.size))
      clear hA7

      have HRw : Hid (Ow.OwnX (w6.alloc (.cells #[.string ⟨#[]⟩, .int .i64 2, .string ⟨#[]⟩, .bool false] 37)) w0.heap.size 37 4 FldX (.slice (some ⟨w6.heap.size, 0, none⟩) 1 1) [(⟨[], ⟨2, []⟩, false⟩ : Pp.Fld)]) := hide ⟨[.string ⟨#[]⟩, .int .i64 2, .string ⟨#[]⟩, .bool false], ⟨[.string ⟨#[]⟩, .int .i64 2, .string ⟨#[]⟩, .bool false], [], rfl, ⟨rfl, by decide, by decide⟩, rfl⟩, rfl, .inr ⟨w6.heap.size, 1, _, rfl, HB6.out.size, HNw.out, Nat.le_refl _, by decide, rfl, rfl⟩⟩
      have hG0 := HG7.out
      have f0 := Ow.fz_blk hG0 (i * 6 + 4)
      have HO0x : Hid (Ow.ProgO ((w6.alloc (.cells #[.string ⟨#[]⟩, .int .i64 2, .string ⟨#[]⟩, .bool false] 37)).setCell ⟨g, i * 6 + 4, none⟩ (.slice (some ⟨w6.heap.size, 0, none⟩) 1 1)) w0.heap.size (.slice (some ⟨g, 0, none⟩) n tc) (cs.set i { c with fields := [⟨[], ⟨2, []⟩, false⟩] })) := hide (put_cls (j := 4) (u := .slice (some ⟨w6.heap.size, 0, none⟩) 1 1) (x' := { c with fields := [⟨[], ⟨2, []⟩, false⟩] }) HO7.out hG0 HIc.out (by decide) (by rintro y ⟨vp, vc, vk, rfl, x1, x2, x3, l1, l2, l3, l4, l5⟩; exact ⟨vp, _, vk, rfl, x1, HRw.out, x3, l1, l2, l3, (by show 1 ≤ maxLen; unfold maxLen; omega), l5⟩))
      have HB0x : Hid (Below w0.heap.size w0 ((w6.alloc (.cells #[.string ⟨#[]⟩, .int .i64 2, .string ⟨#[]⟩, .bool false] 37)).setCell ⟨g, i * 6 + 4, none⟩ (.slice (some ⟨w6.heap.size, 0, none⟩) 1 1))) := hide ((HB7.out).trans ((Below.refl _ _).setCell (p := ⟨g, i * 6 + 4, none⟩) HGb.out (.slice (some ⟨w6.heap.size, 0, none⟩) 1 1)))
      have HQ0x : Hid (((w6.alloc (.cells #[.string ⟨#[]⟩, .int .i64 2, .string ⟨#[]⟩, .bool false] 37)).setCell ⟨g, i * 6 + 4, none⟩ (.slice (some ⟨w6.heap.size, 0, none⟩) 1 1)).heap[w4.heap.size]? = some (.cells #[.slice (some ⟨g, 0, none⟩) n tc] 24 (0, 0))) := hide ((Ow.Kx.set (t := 32) ⟨_, _, hG0⟩ (i * 6 + 4) (.slice (some ⟨w6.heap.size, 0, none⟩) 1 1)).blk _ _ _ _ (HQ7.out) (by decide))
      have HF := HB0x
      have HQf := HQ0x
      obtain ⟨qs, HEq, HPq⟩ : ∃ qs, Hid (Pp.progB qs = false) ∧ Hid (∀ wx, Below ((w6.alloc (.cells #[.string ⟨#[]⟩, .int .i64 2, .string ⟨#[]⟩, .bool false] 37)).setCell ⟨g, i * 6 + 4, none⟩ (.slice (some ⟨w6.heap.size, 0, none⟩) 1 1)).heap.size ((w6.alloc (.cells #[.string ⟨#[]⟩, .int .i64 2, .string ⟨#[]⟩, .bool false] 37)).setCell ⟨g, i * 6 + 4, none⟩ (.slice (some ⟨w6.heap.size, 0, none⟩) 1 1)) wx → ProgX wx (.slice (some ⟨g, 0, none⟩) n tc) qs) := ⟨cs.set i { c with fields := [⟨[], ⟨2, []⟩, false⟩] }, hide (Sb.prog_bad (i := i) (List.getElem?_set_self (by rw [← HN.out]; exact hi)) (Sb.bad0 c)), hide fun wx hb => HO0x.out.x.on hb⟩
      clear HO0x HQ0x HB0x
      have d0 := HC.out _ HF.out
      have d1 := cell_box HQf.out 0
      go_wp2_with fail
      generalize ((w6.alloc (.cells #[.string ⟨#[]⟩, .int .i64 2, .string ⟨#[]⟩, .bool false] 37)).setCell ⟨g, i * 6 + 4, none⟩ (.slice (some ⟨w6.heap.size, 0, none⟩) 1 1)) = wf at *

      refine (Text_any qs _ wf (HT.out _ (HW.out _ HF.out)).1 (HT.out _ (HW.out _ HF.out)).2.1 (HT.out _ (HW.out _ HF.out)).2.2 (HPq.out wf (Below.refl _ _))).mono ?_
      rintro e y0 ⟨⟨rv, rfl, hrv⟩, hy0⟩
      have hrv' : (if Pp.progB qs = true ∧ (Pp.textX qs).length ≤ 6000 then y0.ownsRow wf.heap.size 5 1 rv (Pp.textX qs).length ((Pp.textX qs).map Sh.byV) else rv = .slice none 0 0) := hrv
      rw [if_neg (fun h => by rw [HEq.out] at h; cases h.1)] at hrv'
      subst hrv'
      rw [show (if Pp.progB qs = true then (if (Pp.textX qs).length ≤ 6000 then (0 : Int) else 2) else 4) = 4 from by rw [HEq.out]; rfl]
      have HY0 := hide (HF.out.trans (hy0.mono HF.out.size))
      have HX0 := hide hy0
      have e0 := HC.out _ HY0.out
      have e1 := cell_box ((hy0.block _ (Ow.lt_of_blk HQf.out)).trans HQf.out) 0
      clear hy0 hrv d0 d1
      go_wp2_with fail
      refine (Check_any cs _ _ (HT.out _ (HW.out _ HY0.out)).1 (HP.out _ (HW.out _ HY0.out))).mono ?_
      rintro e y1 ⟨rfl, hy1⟩
      rw [if_pos HE.out]
      have HY1 := hide (HY0.out.trans (hy1.mono HY0.out.size))
      have HX1 := hide (HX0.out.trans (hy1.mono HX0.out.size))
      have d1 := cell_box ((HX1.out.block _ (Ow.lt_of_blk HQf.out)).trans HQf.out) 0
      clear hy1 e0 e1
      go_wp2_with fail
      refine (Check_any qs _ y1 (HT.out _ (HW.out _ HY1.out)).1 (HPq.out _ HX1.out)).mono ?_
      rintro e y2 ⟨rfl, hy2⟩
      rw [show (if Pp.progB qs = true then (0 : Int) else 4) = 4 from by rw [HEq.out]; rfl]
      have HY2 := hide (HY1.out.trans (hy2.mono HY1.out.size))
      clear hy2 d1
      go_wp2_with fail
      refine (wakes_any y2 (HT.out _ (HW.out _ HY2.out)).1 (HT.out _ (HW.out _ HY2.out)).2.1 (HT.out _ (HW.out _ HY2.out)).2.2).mono ?_
      rintro e y3 ⟨rfl, hy3⟩
      have HY3 := hide (HY2.out.trans (hy3.mono HY2.out.size))
      clear hy3
      go_wp2_with fail
      go_ret
      exact ⟨rfl, HW.out _ HY3.out⟩
    · have hp3 : Ow.OwnX w6 w2.heap.size 42 9 (Ow.MthO w6 w2.heap.size) (.slice v5 tf tm) c.methods := HNm.out.2.on HA6.out fun _ _ h => h.on HA6.out (Nat.le_refl _)
      rcases Nat.eq_zero_or_pos c.methods.length with hm0 | hm0
      · obtain ⟨_, _, he5⟩ := hp3.shape
        obtain rfl : tf = 0 := by injection he5 with _ h _; omega
        clear hp3 he5
        go_wp2_with fail
        refine (wakes_any _ (HT.out _ (HW.out _ HB6.out)).1 (HT.out _ (HW.out _ HB6.out)).2.1 (HT.out _ (HW.out _ HB6.out)).2.2).mono ?_
        rintro e y3 ⟨rfl, hy3⟩
        have HY3 := hide (HB6.out.trans (hy3.mono HB6.out.size))
        clear hy3
        go_wp2_with fail
        go_ret
        exact ⟨rfl, HW.out _ HY3.out⟩
      obtain ⟨g1, c1', cur1, e5, hb1, hg1, hmc⟩ := hp3.cells Ow.shp_mth hm0
      cases e5
      obtain ⟨m, hm⟩ : ∃ m, c.methods[0]? = some m := ⟨c.methods[0]'hm0, List.getElem?_eq_getElem _⟩
      obtain ⟨ys, ⟨q1, q2, q3, rfl, o1, o2, o3, _⟩, hyc⟩ := hmc 0 m hm
      have t2 : w6.cell? ⟨g1, 2, none⟩ = some (.bool m.abst) := by have := hyc 2 _ rfl; simpa using this
      have t7 : w6.cell? ⟨g1, 7, none⟩ = some q2 := by have := hyc 7 _ rfl; simpa using this
      have HR5 := hide r5
      have HT7 := hide t7
      obtain ⟨nm, hnm⟩ : ∃ q, q = c.methods.length := ⟨_, rfl⟩
      rw [← hnm] at r5 hm0
      clear hnm
      have hm1 : ¬ ((nm : Int) = 0) := by omega
      have hm2 : ¬ (nm = 0) := by omega
      have hm3 : (0 : Int) < (nm : Int) := by omega
      have hm4 : ((nm : Int) == 0) = false := by simp; omega
      have HMM := hide hm
      clear hp3 hmc hyc o1 o3 hm
      cases hab : m.abst with
      | true =>
        rw [hab] at t2
        go_wp2_with fail
        refine (wakes_any _ (HT.out _ (HW.out _ HB6.out)).1 (HT.out _ (HW.out _ HB6.out)).2.1 (HT.out _ (HW.out _ HB6.out)).2.2).mono ?_
        rintro e y3 ⟨rfl, hy3⟩
        have HY3 := hide (HB6.out.trans (hy3.mono HB6.out.size))
        clear hy3
        go_wp2_with fail
        go_ret
        exact ⟨rfl, HW.out _ HY3.out⟩
      | false =>
        rw [hab] at t2
        have HAB := hide hab
        clear hab
        rcases Nat.eq_zero_or_pos m.code.length with hk0 | hk0
        · obtain ⟨a7, c7, rfl⟩ := o2.shape
          rw [hk0] at t7
          clear o2
          go_wp2_with fail
          refine (wakes_any _ (HT.out _ (HW.out _ HB6.out)).1 (HT.out _ (HW.out _ HB6.out)).2.1 (HT.out _ (HW.out _ HB6.out)).2.2).mono ?_
          rintro e y3 ⟨rfl, hy3⟩
          have HY3 := hide (HB6.out.trans (hy3.mono HB6.out.size))
          clear hy3
          go_wp2_with fail
          go_ret
          exact ⟨rfl, HW.out _ HY3.out⟩
        obtain ⟨g2, c2', cur2, rfl, hb2, hg2, hkc⟩ := o2.cells Ow.shp_ins hk0
        obtain ⟨x, hx⟩ : ∃ x, m.code[0]? = some x := ⟨m.code[0]'hk0, List.getElem?_eq_getElem _⟩
        obtain ⟨ys, ⟨rfl, _, _⟩, hyc⟩ := hkc 0 x hx
        have z1 : w6.cell? ⟨g2, 1, none⟩ = some (.int .i64 x.n) := by have := hyc 1 _ rfl; simpa using this
        have z2 : w6.cell? ⟨g2, 2, none⟩ = some (.string ⟨x.a.toArray⟩) := by have := hyc 2 _ rfl; simpa using this
        have z3 : w6.cell? ⟨g2, 3, none⟩ = some (.string ⟨x.b.toArray⟩) := by have := hyc 3 _ rfl; simpa using this
        obtain ⟨nk, hnk⟩ : ∃ q, q = m.code.length := ⟨_, rfl⟩
        rw [← hnk] at t7 hk0
        clear hnk
        have hk1 : ¬ ((nk : Int) = 0) := by omega
        have hk2 : ¬ (nk = 0) := by omega
        have hk3 : (0 : Int) < (nk : Int) := by omega
        have hk4 : ((nk : Int) == 0) = false := by simp; omega
        have HXX := hide hx
        have HG2 := hide hg2
        have HB2x := hide (Nat.le_trans HB2.out.size hb2)
        have e5 := HR5.out
        clear hkc hyc o2 hx hb2 hg2
        have n1 : g ≠ g2 := fun e => by
          have h1 := HG6.out
          rw [e, HG2.out] at h1; injection h1 with h1; injection h1 with _ h1; exact absurd h1 (by decide)
        have n2 : g1 ≠ g2 := fun e => by
          have h1 := hg1
          rw [e, HG2.out] at h1; injection h1 with h1; injection h1 with _ h1; exact absurd h1 (by decide)
        have K0 : Hid (w6.drew.heap[g2]? = some (.cells cur2 45 (0, 0))) := hide HG2.out
        have K1 := hide (Ow.blk_put K0.out 2 (.string ⟨#[65]⟩))
        have K2 := hide (Ow.blk_put K1.out 3 (.string ⟨#[66]⟩))
        have K3 := hide (Ow.blk_put K2.out 1 (.int .i64 8589934592))
        have f0 := Ow.fz_blk K0.out 2
        have f1 := Ow.fz_blk K1.out 3
        have f2 := Ow.fz_blk K2.out 1
        have y0 : w6.drew.cell? ⟨g2, 2, none⟩ = some (.string ⟨x.a.toArray⟩) := z2
        have y1 : (w6.drew.setCell ⟨g2, 2, none⟩ (.string ⟨#[65]⟩)).cell? ⟨g2, 3, none⟩ = some (.string ⟨x.b.toArray⟩) := by rw [World.cell?_setCell_other _ _ _ _ (by simp)]; exact z3
        have y2 : ((w6.drew.setCell ⟨g2, 2, none⟩ (.string ⟨#[65]⟩)).setCell ⟨g2, 3, none⟩ (.string ⟨#[66]⟩)).cell? ⟨g2, 1, none⟩ = some (.int .i64 x.n) := by rw [World.cell?_setCell_other _ _ _ _ (by simp), World.cell?_setCell_other _ _ _ _ (by simp)]; exact z1
        have u1 : w6.frozen? ⟨g2, 1, none⟩ = false := Ow.fz_blk HG2.out 1
        have u2 : w6.frozen? ⟨g2, 2, none⟩ = false := Ow.fz_blk HG2.out 2
        have u3 : w6.frozen? ⟨g2, 3, none⟩ = false := Ow.fz_blk HG2.out 3
        have b1 : w6.drew.frozen? ⟨g2, 1, none⟩ = false := Ow.fz_blk K0.out 1
        have b3 : w6.drew.frozen? ⟨g2, 3, none⟩ = false := Ow.fz_blk K0.out 3
        have S0 : Hid (w6.drew.cell? ⟨g, i * 6 + 5, none⟩ = some (.slice (some ⟨g1, 0, none⟩) nm tm) ∧ w6.drew.cell? ⟨g1, 7, none⟩ = some (.slice (some ⟨g2, 0, none⟩) nk c2')) := hide ⟨r5, t7⟩
        have S1 : Hid ((w6.drew.setCell ⟨g2, 2, none⟩ (.string ⟨#[65]⟩)).cell? ⟨g, i * 6 + 5, none⟩ = some (.slice (some ⟨g1, 0, none⟩) nm tm) ∧ (w6.drew.setCell ⟨g2, 2, none⟩ (.string ⟨#[65]⟩)).cell? ⟨g1, 7, none⟩ = some (.slice (some ⟨g2, 0, none⟩) nk c2')) := hide ⟨(World.cell?_setCell_far _ _ _ _ n1.symm).trans S0.out.1, (World.cell?_setCell_far _ _ _ _ n2.symm).trans S0.out.2⟩
        have S2 : Hid (((w6.drew.setCell ⟨g2, 2, none⟩ (.string ⟨#[65]⟩)).setCell ⟨g2, 3, none⟩ (.string ⟨#[66]⟩)).cell? ⟨g, i * 6 + 5, none⟩ = some (.slice (some ⟨g1, 0, none⟩) nm tm) ∧ ((w6.drew.setCell ⟨g2, 2, none⟩ (.string ⟨#[65]⟩)).setCell ⟨g2, 3, none⟩ (.string ⟨#[66]⟩)).cell? ⟨g1, 7, none⟩ = some (.slice (some ⟨g2, 0, none⟩) nk c2')) := hide ⟨(World.cell?_setCell_far _ _ _ _ n1.symm).trans S1.out.1, (World.cell?_setCell_far _ _ _ _ n2.symm).trans S1.out.2⟩
        have S3 : Hid ((((w6.drew.setCell ⟨g2, 2, none⟩ (.string ⟨#[65]⟩)).setCell ⟨g2, 3, none⟩ (.string ⟨#[66]⟩)).setCell ⟨g2, 1, none⟩ (.int .i64 8589934592)).cell? ⟨g, i * 6 + 5, none⟩ = some (.slice (some ⟨g1, 0, none⟩) nm tm) ∧ (((w6.drew.setCell ⟨g2, 2, none⟩ (.string ⟨#[65]⟩)).setCell ⟨g2, 3, none⟩ (.string ⟨#[66]⟩)).setCell ⟨g2, 1, none⟩ (.int .i64 8589934592)).cell? ⟨g1, 7, none⟩ = some (.slice (some ⟨g2, 0, none⟩) nk c2')) := hide ⟨(World.cell?_setCell_far _ _ _ _ n1.symm).trans S2.out.1, (World.cell?_setCell_far _ _ _ _ n2.symm).trans S2.out.2⟩
        have HBt : Hid (Sb.Bent w6 (((w6.drew.setCell ⟨g2, 2, none⟩ (.string ⟨#[65]⟩)).setCell ⟨g2, 3, none⟩ (.string ⟨#[66]⟩)).setCell ⟨g2, 1, none⟩ (.int .i64 8589934592)) g2) := hide ⟨fun k cc tt hk hkg => by
          rw [setCell_far _ hkg, setCell_far _ hkg, setCell_far _ hkg]; exact hk, cur2, HG2.out, K3.out⟩
        have HF : Hid (Below w0.heap.size w0 (((w6.drew.setCell ⟨g2, 2, none⟩ (.string ⟨#[65]⟩)).setCell ⟨g2, 3, none⟩ (.string ⟨#[66]⟩)).setCell ⟨g2, 1, none⟩ (.int .i64 8589934592))) := hide ((((HB6.out.trans ((Below.drew (Below.refl _ _)).mono HB6.out.size)).trans ((Below.refl _ _).setCell (p := ⟨g2, 2, none⟩) HB2x.out _)).trans ((Below.refl _ _).setCell (p := ⟨g2, 3, none⟩) HB2x.out _)).trans ((Below.refl _ _).setCell (p := ⟨g2, 1, none⟩) HB2x.out _))
        have HQf : Hid ((((w6.drew.setCell ⟨g2, 2, none⟩ (.string ⟨#[65]⟩)).setCell ⟨g2, 3, none⟩ (.string ⟨#[66]⟩)).setCell ⟨g2, 1, none⟩ (.int .i64 8589934592)).heap[w4.heap.size]? = some (.cells #[.slice (some ⟨g, 0, none⟩) n tc] 24 (0, 0))) := hide (HBt.out.kx (by decide) _ _ HQ6.out)
        obtain ⟨qs, HO', hbad⟩ := HBt.out.prog HO6.out HIc.out HMM.out HAB.out HXX.out e5 ⟨_, _, HT7.out⟩
        have HEq := hide hbad
        have HPq : Hid (∀ wx, Below (((w6.drew.setCell ⟨g2, 2, none⟩ (.string ⟨#[65]⟩)).setCell ⟨g2, 3, none⟩ (.string ⟨#[66]⟩)).setCell ⟨g2, 1, none⟩ (.int .i64 8589934592)).heap.size (((w6.drew.setCell ⟨g2, 2, none⟩ (.string ⟨#[65]⟩)).setCell ⟨g2, 3, none⟩ (.string ⟨#[66]⟩)).setCell ⟨g2, 1, none⟩ (.int .i64 8589934592)) wx → ProgX wx (.slice (some ⟨g, 0, none⟩) n tc) qs) := hide fun wx hb => HO'.x.on hb
        clear HO' hbad e5 n1 n2 hg1 HBt K0 K1 K2 K3 r0 r1 r2 r3 r4
        go_upto_region 12 with fail
        go_region_held3 (fun wx => wx.cell? ⟨g, i * 6 + 5, none⟩ = some (.slice (some ⟨g1, 0, none⟩) nm tm) ∧ wx.cell? ⟨g1, 7, none⟩ = some (.slice (some ⟨g2, 0, none⟩) nk c2')) (first | exact S3.out | exact S2.out | exact S1.out | exact S0.out) (fail)
        all_goals
          have HFn : Hid (Below w0.heap.size w0 ((((w6.setCell ⟨g2, 2, none⟩ (.string ⟨#[65]⟩)).setCell ⟨g2, 3, none⟩ (.string ⟨#[66]⟩)).setCell ⟨g2, 1, none⟩ (.int .i64 8589934592)).drew)) := HF
          have HQn : Hid (((((w6.setCell ⟨g2, 2, none⟩ (.string ⟨#[65]⟩)).setCell ⟨g2, 3, none⟩ (.string ⟨#[66]⟩)).setCell ⟨g2, 1, none⟩ (.int .i64 8589934592)).drew).heap[w4.heap.size]? = some (.cells #[.slice (some ⟨g, 0, none⟩) n tc] 24 (0, 0))) := HQf
          have HPn : Hid (∀ wx, Below ((((w6.setCell ⟨g2, 2, none⟩ (.string ⟨#[65]⟩)).setCell ⟨g2, 3, none⟩ (.string ⟨#[66]⟩)).setCell ⟨g2, 1, none⟩ (.int .i64 8589934592)).drew).heap.size ((((w6.setCell ⟨g2, 2, none⟩ (.string ⟨#[65]⟩)).setCell ⟨g2, 3, none⟩ (.string ⟨#[66]⟩)).setCell ⟨g2, 1, none⟩ (.int .i64 8589934592)).drew) wx → ProgX wx (.slice (some ⟨g, 0, none⟩) n tc) qs) := HPq
          clear HF HQf HPq
          have HF := HFn
          have HQf := HQn
          have HPq := HPn
          clear HFn HQn HPn
          have d0 := HC.out _ HF.out
          have d1 := cell_box HQf.out 0
          have d2 : (((w6.setCell ⟨g2, 2, none⟩ (.string ⟨#[65]⟩)).setCell ⟨g2, 3, none⟩ (.string ⟨#[66]⟩)).setCell ⟨g2, 1, none⟩ (.int .i64 8589934592)).cell? ⟨w4.heap.size, 0, none⟩ = some (.slice (some ⟨g, 0, none⟩) n tc) := d1
          clear y0 y1 y2 f0 f1 f2 u1 u2 u3 b1 b3 z1 z2 z3 S0 S1 S2 S3 r5 t7 HG6 HO6 HQ6
          go_wp2_with fail
          clear d2
          generalize (((w6.setCell ⟨g2, 2, none⟩ (.string ⟨#[65]⟩)).setCell ⟨g2, 3, none⟩ (.string ⟨#[66]⟩)).setCell ⟨g2, 1, none⟩ (.int .i64 8589934592)).drew = wf at *
          refine (Text_any qs _ wf (HT.out _ (HW.out _ HF.out)).1 (HT.out _ (HW.out _ HF.out)).2.1 (HT.out _ (HW.out _ HF.out)).2.2 (HPq.out wf (Below.refl _ _))).mono ?_
          rintro e y0 ⟨⟨rv, rfl, hrv⟩, hy0⟩
          have hrv' : (if Pp.progB qs = true ∧ (Pp.textX qs).length ≤ 6000 then y0.ownsRow wf.heap.size 5 1 rv (Pp.textX qs).length ((Pp.textX qs).map Sh.byV) else rv = .slice none 0 0) := hrv
          rw [if_neg (fun h => by rw [HEq.out] at h; cases h.1)] at hrv'
          subst hrv'
          rw [show (if Pp.progB qs = true then (if (Pp.textX qs).length ≤ 6000 then (0 : Int) else 2) else 4) = 4 from by rw [HEq.out]; rfl]
          have HY0 := hide (HF.out.trans (hy0.mono HF.out.size))
          have HX0 := hide hy0
          have e0 := HC.out _ HY0.out
          have e1 := cell_box ((hy0.block _ (Ow.lt_of_blk HQf.out)).trans HQf.out) 0
          clear hy0 hrv d0 d1
          go_wp2_with fail
          refine (Check_any cs _ _ (HT.out _ (HW.out _ HY0.out)).1 (HP.out _ (HW.out _ HY0.out))).mono ?_
          rintro e y1 ⟨rfl, hy1⟩
          rw [if_pos HE.out]
          have HY1 := hide (HY0.out.trans (hy1.mono HY0.out.size))
          have HX1 := hide (HX0.out.trans (hy1.mono HX0.out.size))
          have d1 := cell_box ((HX1.out.block _ (Ow.lt_of_blk HQf.out)).trans HQf.out) 0
          clear hy1 e0 e1
          go_wp2_with fail
          refine (Check_any qs _ y1 (HT.out _ (HW.out _ HY1.out)).1 (HPq.out _ HX1.out)).mono ?_
          rintro e y2 ⟨rfl, hy2⟩
          rw [show (if Pp.progB qs = true then (0 : Int) else 4) = 4 from by rw [HEq.out]; rfl]
          have HY2 := hide (HY1.out.trans (hy2.mono HY1.out.size))
          clear hy2 d1
          go_wp2_with fail
          refine (wakes_any y2 (HT.out _ (HW.out _ HY2.out)).1 (HT.out _ (HW.out _ HY2.out)).2.1 (HT.out _ (HW.out _ HY2.out)).2.2).mono ?_
          rintro e y3 ⟨rfl, hy3⟩
          have HY3 := hide (HY2.out.trans (hy3.mono HY2.out.size))
          clear hy3
          go_wp2_with fail
          go_ret
          exact ⟨rfl, HW.out _ HY3.out⟩
    · have hG0 := HG6.out
      have f0 := Ow.fz_blk hG0 (i * 6 + 1)
      have HO0x : Hid (Ow.ProgO (w6.setCell ⟨g, i * 6 + 1, none⟩ (.bool true)) w0.heap.size (.slice (some ⟨g, 0, none⟩) n tc) (cs.set i { c with iface := true })) := hide (put_cls (j := 1) (u := .bool true) (x' := { c with iface := true }) HO6.out hG0 HIc.out (by decide) (by rintro y ⟨vp, vc, vk, rfl, x1, x2, x3, l1, l2, l3, l4, l5⟩; exact ⟨vp, vc, vk, rfl, x1, x2, x3, l1, l2, l3, l4, l5⟩))
      have HB0x : Hid (Below w0.heap.size w0 (w6.setCell ⟨g, i * 6 + 1, none⟩ (.bool true))) := hide ((HB6.out).trans ((Below.refl _ _).setCell (p := ⟨g, i * 6 + 1, none⟩) HGb.out (.bool true)))
      have HQ0x : Hid ((w6.setCell ⟨g, i * 6 + 1, none⟩ (.bool true)).heap[w4.heap.size]? = some (.cells #[.slice (some ⟨g, 0, none⟩) n tc] 24 (0, 0))) := hide ((Ow.Kx.set (t := 32) ⟨_, _, hG0⟩ (i * 6 + 1) (.bool true)).blk _ _ _ _ (HQ6.out) (by decide))
      have hG1 := (Ow.blk_put hG0 (i * 6 + 1) (.bool true))
      have f1 := Ow.fz_blk hG1 (i * 6 + 2)
      have HO1x : Hid (Ow.ProgO ((w6.setCell ⟨g, i * 6 + 1, none⟩ (.bool true)).setCell ⟨g, i * 6 + 2, none⟩ (.string ⟨#[65]⟩)) w0.heap.size (.slice (some ⟨g, 0, none⟩) n tc) (cs.set i { c with iface := true, super := [65] })) := hide (by simpa only [List.set_set] using put_cls (j := 2) (u := .string ⟨#[65]⟩) (x' := { c with iface := true, super := [65] }) HO0x.out hG1 (show (cs.set i { c with iface := true })[i]? = some { c with iface := true } from by rw [List.getElem?_set_self (by rw [← HN.out]; exact hi)]) (by decide) (by rintro y ⟨vp, vc, vk, rfl, x1, x2, x3, l1, l2, l3, l4, l5⟩; exact ⟨vp, vc, vk, rfl, x1, x2, x3, l1, (by show 1 ≤ maxLen; unfold maxLen; omega), l3, l4, l5⟩))
      have HB1x : Hid (Below w0.heap.size w0 ((w6.setCell ⟨g, i * 6 + 1, none⟩ (.bool true)).setCell ⟨g, i * 6 + 2, none⟩ (.string ⟨#[65]⟩))) := hide ((HB0x.out).trans ((Below.refl _ _).setCell (p := ⟨g, i * 6 + 2, none⟩) HGb.out (.string ⟨#[65]⟩)))
      have HQ1x : Hid (((w6.setCell ⟨g, i * 6 + 1, none⟩ (.bool true)).setCell ⟨g, i * 6 + 2, none⟩ (.string ⟨#[65]⟩)).heap[w4.heap.size]? = some (.cells #[.slice (some ⟨g, 0, none⟩) n tc] 24 (0, 0))) := hide ((Ow.Kx.set (t := 32) ⟨_, _, hG1⟩ (i * 6 + 2) (.string ⟨#[65]⟩)).blk _ _ _ _ (HQ0x.out) (by decide))
      have HF := HB1x
      have HQf := HQ1x
      obtain ⟨qs, HEq, HPq⟩ : ∃ qs, Hid (Pp.progB qs = false) ∧ Hid (∀ wx, Below ((w6.setCell ⟨g, i * 6 + 1, none⟩ (.bool true)).setCell ⟨g, i * 6 + 2, none⟩ (.string ⟨#[65]⟩)).heap.size ((w6.setCell ⟨g, i * 6 + 1, none⟩ (.bool true)).setCell ⟨g, i * 6 + 2, none⟩ (.string ⟨#[65]⟩)) wx → ProgX wx (.slice (some ⟨g, 0, none⟩) n tc) qs) := ⟨cs.set i { c with iface := true, super := [65] }, hide (Sb.prog_bad (i := i) (List.getElem?_set_self (by rw [← HN.out]; exact hi)) (Sb.bad2 c)), hide fun wx hb => HO1x.out.x.on hb⟩
      clear HO0x HO1x HQ0x HB0x HQ1x HB1x
      have d0 := HC.out _ HF.out
      have d1 := cell_box HQf.out 0
      go_wp2_with fail
      generalize ((w6.setCell ⟨g, i * 6 + 1, none⟩ (.bool true)).setCell ⟨g, i * 6 + 2, none⟩ (.string ⟨#[65]⟩)) = wf at *

      refine (Text_any qs _ wf (HT.out _ (HW.out _ HF.out)).1 (HT.out _ (HW.out _ HF.out)).2.1 (HT.out _ (HW.out _ HF.out)).2.2 (HPq.out wf (Below.refl _ _))).mono ?_
      rintro e y0 ⟨⟨rv, rfl, hrv⟩, hy0⟩
      have hrv' : (if Pp.progB qs = true ∧ (Pp.textX qs).length ≤ 6000 then y0.ownsRow wf.heap.size 5 1 rv (Pp.textX qs).length ((Pp.textX qs).map Sh.byV) else rv = .slice none 0 0) := hrv
      rw [if_neg (fun h => by rw [HEq.out] at h; cases h.1)] at hrv'
      subst hrv'
      rw [show (if Pp.progB qs = true then (if (Pp.textX qs).length ≤ 6000 then (0 : Int) else 2) else 4) = 4 from by rw [HEq.out]; rfl]
      have HY0 := hide (HF.out.trans (hy0.mono HF.out.size))
      have HX0 := hide hy0
      have e0 := HC.out _ HY0.out
      have e1 := cell_box ((hy0.block _ (Ow.lt_of_blk HQf.out)).trans HQf.out) 0
      clear hy0 hrv d0 d1
      go_wp2_with fail
      refine (Check_any cs _ _ (HT.out _ (HW.out _ HY0.out)).1 (HP.out _ (HW.out _ HY0.out))).mono ?_
      rintro e y1 ⟨rfl, hy1⟩
      rw [if_pos HE.out]
      have HY1 := hide (HY0.out.trans (hy1.mono HY0.out.size))
      have HX1 := hide (HX0.out.trans (hy1.mono HX0.out.size))
      have d1 := cell_box ((HX1.out.block _ (Ow.lt_of_blk HQf.out)).trans HQf.out) 0
      clear hy1 e0 e1
      go_wp2_with fail
      refine (Check_any qs _ y1 (HT.out _ (HW.out _ HY1.out)).1 (HPq.out _ HX1.out)).mono ?_
      rintro e y2 ⟨rfl, hy2⟩
      rw [show (if Pp.progB qs = true then (0 : Int) else 4) = 4 from by rw [HEq.out]; rfl]
      have HY2 := hide (HY1.out.trans (hy2.mono HY1.out.size))
      clear hy2 d1
      go_wp2_with fail
      refine (wakes_any y2 (HT.out _ (HW.out _ HY2.out)).1 (HT.out _ (HW.out _ HY2.out)).2.1 (HT.out _ (HW.out _ HY2.out)).2.2).mono ?_
      rintro e y3 ⟨rfl, hy3⟩
      have HY3 := hide (HY2.out.trans (hy3.mono HY2.out.size))
      clear hy3
      go_wp2_with fail
      go_ret
      exact ⟨rfl, HW.out _ HY3.out⟩
    · have hA7 : Below w6.heap.size w6 (w6.alloc (.cells #[.string ⟨#[109]⟩, .bool false, .bool true, .slice none 0 0, .int .i64 1, .string ⟨#[]⟩, .int .i64 1, .slice none 0 0, .slice none 0 0] 42)) := (Below.refl _ _).alloc (Nat.le_refl _) _
      have HB7 := hide (HB6.out.trans (hA7.mono HB6.out.size))
      have HQ7 := hide ((hA7.block _ (Ow.lt_of_blk HQ6.out)).trans HQ6.out)
      have HG7 := hide ((hA7.block _ (Ow.lt_of_blk HG6.out)).trans HG6.out)
      have HO7 := hide (HO6.out.on hA7 (Nat.le_refl _))
      have HNw := hide (heap_alloc_new w6 (.cells #[.string ⟨#[109]⟩, .bool false, .bool true, .slice none 0 0, .int .i64 1, .string ⟨#[]⟩, .int .i64 1, .slice none 0 0, .slice none 0 0] 42))
      obtain ⟨s0, s1, s2, s3, s4, s5⟩ := HNm.out.1 _ (HA6.out.trans (hA7.mono HA6.out.size))
      clear hA7

      have HRw : Hid (Ow.OwnX (w6.alloc (.cells #[.string ⟨#[109]⟩, .bool false, .bool true, .slice none 0 0, .int .i64 1, .string ⟨#[]⟩, .int .i64 1, .slice none 0 0, .slice none 0 0] 42)) w0.heap.size 42 9 (Ow.MthO (w6.alloc (.cells #[.string ⟨#[109]⟩, .bool false, .bool true, .slice none 0 0, .int .i64 1, .string ⟨#[]⟩, .int .i64 1, .slice none 0 0, .slice none 0 0] 42)) w0.heap.size) (.slice (some ⟨w6.heap.size, 0, none⟩) 1 1) [(⟨[109], false, true, [], ⟨1, []⟩, 1, [], []⟩ : Pp.XMth)]) := hide ⟨[.string ⟨#[109]⟩, .bool false, .bool true, .slice none 0 0, .int .i64 1, .string ⟨#[]⟩, .int .i64 1, .slice none 0 0, .slice none 0 0], ⟨[.string ⟨#[109]⟩, .bool false, .bool true, .slice none 0 0, .int .i64 1, .string ⟨#[]⟩, .int .i64 1, .slice none 0 0, .slice none 0 0], [], rfl, ⟨.slice none 0 0, .slice none 0 0, .slice none 0 0, rfl, Ow.OwnX.nil _ _ _ _ _, Ow.OwnX.nil _ _ _ _ _, Ow.OwnX.nil _ _ _ _ _, by decide, by decide, by decide, by decide, by decide⟩, rfl⟩, rfl, .inr ⟨w6.heap.size, 1, _, rfl, HB6.out.size, HNw.out, Nat.le_refl _, by decide, rfl, rfl⟩⟩
      have hG0 := HG7.out
      have f0 := Ow.fz_blk hG0 (i * 6 + 5)
      have HO0x : Hid (Ow.ProgO ((w6.alloc (.cells #[.string ⟨#[109]⟩, .bool false, .bool true, .slice none 0 0, .int .i64 1, .string ⟨#[]⟩, .int .i64 1, .slice none 0 0, .slice none 0 0] 42)).setCell ⟨g, i * 6 + 5, none⟩ (.slice (some ⟨w6.heap.size, 0, none⟩) 1 1)) w0.heap.size (.slice (some ⟨g, 0, none⟩) n tc) (cs.set i { c with methods := [⟨[109], false, true, [], ⟨1, []⟩, 1, [], []⟩] })) := hide (put_cls (j := 5) (u := .slice (some ⟨w6.heap.size, 0, none⟩) 1 1) (x' := { c with methods := [⟨[109], false, true, [], ⟨1, []⟩, 1, [], []⟩] }) HO7.out hG0 HIc.out (by decide) (by rintro y ⟨vp, vc, vk, rfl, x1, x2, x3, l1, l2, l3, l4, l5⟩; exact ⟨vp, vc, _, rfl, x1, x2, HRw.out, l1, l2, l3, l4, (by show 1 ≤ maxLen; unfold maxLen; omega)⟩))
      have HB0x : Hid (Below w0.heap.size w0 ((w6.alloc (.cells #[.string ⟨#[109]⟩, .bool false, .bool true, .slice none 0 0, .int .i64 1, .string ⟨#[]⟩, .int .i64 1, .slice none 0 0, .slice none 0 0] 42)).setCell ⟨g, i * 6 + 5, none⟩ (.slice (some ⟨w6.heap.size, 0, none⟩) 1 1))) := hide ((HB7.out).trans ((Below.refl _ _).setCell (p := ⟨g, i * 6 + 5, none⟩) HGb.out (.slice (some ⟨w6.heap.size, 0, none⟩) 1 1)))
      have HQ0x : Hid (((w6.alloc (.cells #[.string ⟨#[109]⟩, .bool false, .bool true, .slice none 0 0, .int .i64 1, .string ⟨#[]⟩, .int .i64 1, .slice none 0 0, .slice none 0 0] 42)).setCell ⟨g, i * 6 + 5, none⟩ (.slice (some ⟨w6.heap.size, 0, none⟩) 1 1)).heap[w4.heap.size]? = some (.cells #[.slice (some ⟨g, 0, none⟩) n tc] 24 (0, 0))) := hide ((Ow.Kx.set (t := 32) ⟨_, _, hG0⟩ (i * 6 + 5) (.slice (some ⟨w6.heap.size, 0, none⟩) 1 1)).blk _ _ _ _ (HQ7.out) (by decide))
      have HF := HB0x
      have HQf := HQ0x
      obtain ⟨qs, HEq, HPq⟩ : ∃ qs, Hid (Pp.progB qs = false) ∧ Hid (∀ wx, Below ((w6.alloc (.cells #[.string ⟨#[109]⟩, .bool false, .bool true, .slice none 0 0, .int .i64 1, .string ⟨#[]⟩, .int .i64 1, .slice none 0 0, .slice none 0 0] 42)).setCell ⟨g, i * 6 + 5, none⟩ (.slice (some ⟨w6.heap.size, 0, none⟩) 1 1)).heap.size ((w6.alloc (.cells #[.string ⟨#[109]⟩, .bool false, .bool true, .slice none 0 0, .int .i64 1, .string ⟨#[]⟩, .int .i64 1, .slice none 0 0, .slice none 0 0] 42)).setCell ⟨g, i * 6 + 5, none⟩ (.slice (some ⟨w6.heap.size, 0, none⟩) 1 1)) wx → ProgX wx (.slice (some ⟨g, 0, none⟩) n tc) qs) := ⟨cs.set i { c with methods := [⟨[109], false, true, [], ⟨1, []⟩, 1, [], []⟩] }, hide (Sb.prog_bad (i := i) (List.getElem?_set_self (by rw [← HN.out]; exact hi)) (Sb.bad3 c)), hide fun wx hb => HO0x.out.x.on hb⟩
      clear HO0x HQ0x HB0x
      have d0 := HC.out _ HF.out
      have d1 := cell_box HQf.out 0
      go_wp2_with fail
      generalize ((w6.alloc (.cells #[.string ⟨#[109]⟩, .bool false, .bool true, .slice none 0 0, .int .i64 1, .string ⟨#[]⟩, .int .i64 1, .slice none 0 0, .slice none 0 0] 42)).setCell ⟨g, i * 6 + 5, none⟩ (.slice (some ⟨w6.heap.size, 0, none⟩) 1 1)) = wf at *

      refine (Text_any qs _ wf (HT.out _ (HW.out _ HF.out)).1 (HT.out _ (HW.out _ HF.out)).2.1 (HT.out _ (HW.out _ HF.out)).2.2 (HPq.out wf (Below.refl _ _))).mono ?_
      rintro e y0 ⟨⟨rv, rfl, hrv⟩, hy0⟩
      have hrv' : (if Pp.progB qs = true ∧ (Pp.textX qs).length ≤ 6000 then y0.ownsRow wf.heap.size 5 1 rv (Pp.textX qs).length ((Pp.textX qs).map Sh.byV) else rv = .slice none 0 0) := hrv
      rw [if_neg (fun h => by rw [HEq.out] at h; cases h.1)] at hrv'
      subst hrv'
      rw [show (if Pp.progB qs = true then (if (Pp.textX qs).length ≤ 6000 then (0 : Int) else 2) else 4) = 4 from by rw [HEq.out]; rfl]
      have HY0 := hide (HF.out.trans (hy0.mono HF.out.size))
      have HX0 := hide hy0
      have e0 := HC.out _ HY0.out
      have e1 := cell_box ((hy0.block _ (Ow.lt_of_blk HQf.out)).trans HQf.out) 0
      clear hy0 hrv d0 d1
      go_wp2_with fail
      refine (Check_any cs _ _ (HT.out _ (HW.out _ HY0.out)).1 (HP.out _ (HW.out _ HY0.out))).mono ?_
      rintro e y1 ⟨rfl, hy1⟩
      rw [if_pos HE.out]
      have HY1 := hide (HY0.out.trans (hy1.mono HY0.out.size))
      have HX1 := hide (HX0.out.trans (hy1.mono HX0.out.size))
      have d1 := cell_box ((HX1.out.block _ (Ow.lt_of_blk HQf.out)).trans HQf.out) 0
      clear hy1 e0 e1
      go_wp2_with fail
      refine (Check_any qs _ y1 (HT.out _ (HW.out _ HY1.out)).1 (HPq.out _ HX1.out)).mono ?_
      rintro e y2 ⟨rfl, hy2⟩
      rw [show (if Pp.progB qs = true then (0 : Int) else 4) = 4 from by rw [HEq.out]; rfl]
      have HY2 := hide (HY1.out.trans (hy2.mono HY1.out.size))
      clear hy2 d1
      go_wp2_with fail
      refine (wakes_any y2 (HT.out _ (HW.out _ HY2.out)).1 (HT.out _ (HW.out _ HY2.out)).2.1 (HT.out _ (HW.out _ HY2.out)).2.2).mono ?_
      rintro e y3 ⟨rfl, hy3⟩
      have HY3 := hide (HY2.out.trans (hy3.mono HY2.out.size))
      clear hy3
      go_wp2_with fail
      go_ret
      exact ⟨rfl, HW.out _ HY3.out⟩
    · have hG0 := HG6.out
      have f0 := Ow.fz_blk hG0 (i * 6)
      have HO0x : Hid (Ow.ProgO (w6.setCell ⟨g, i * 6, none⟩ (.string ⟨#[105, 110, 116]⟩)) w0.heap.size (.slice (some ⟨g, 0, none⟩) n tc) (cs.set i { c with name := [105, 110, 116] })) := hide (put_cls (j := 0) (u := .string ⟨#[105, 110, 116]⟩) (x' := { c with name := [105, 110, 116] }) HO6.out hG0 HIc.out (by decide) (by rintro y ⟨vp, vc, vk, rfl, x1, x2, x3, l1, l2, l3, l4, l5⟩; exact ⟨vp, vc, vk, rfl, x1, x2, x3, (by show 3 ≤ maxLen; unfold maxLen; omega), l2, l3, l4, l5⟩))
      have HB0x : Hid (Below w0.heap.size w0 (w6.setCell ⟨g, i * 6, none⟩ (.string ⟨#[105, 110, 116]⟩))) := hide ((HB6.out).trans ((Below.refl _ _).setCell (p := ⟨g, i * 6, none⟩) HGb.out (.string ⟨#[105, 110, 116]⟩)))
      have HQ0x : Hid ((w6.setCell ⟨g, i * 6, none⟩ (.string ⟨#[105, 110, 116]⟩)).heap[w4.heap.size]? = some (.cells #[.slice (some ⟨g, 0, none⟩) n tc] 24 (0, 0))) := hide ((Ow.Kx.set (t := 32) ⟨_, _, hG0⟩ (i * 6) (.string ⟨#[105, 110, 116]⟩)).blk _ _ _ _ (HQ6.out) (by decide))
      have HF := HB0x
      have HQf := HQ0x
      obtain ⟨qs, HEq, HPq⟩ : ∃ qs, Hid (Pp.progB qs = false) ∧ Hid (∀ wx, Below (w6.setCell ⟨g, i * 6, none⟩ (.string ⟨#[105, 110, 116]⟩)).heap.size (w6.setCell ⟨g, i * 6, none⟩ (.string ⟨#[105, 110, 116]⟩)) wx → ProgX wx (.slice (some ⟨g, 0, none⟩) n tc) qs) := ⟨cs.set i { c with name := [105, 110, 116] }, hide (Sb.prog_bad (i := i) (List.getElem?_set_self (by rw [← HN.out]; exact hi)) (Sb.bad4 c)), hide fun wx hb => HO0x.out.x.on hb⟩
      clear HO0x HQ0x HB0x
      have d0 := HC.out _ HF.out
      have d1 := cell_box HQf.out 0
      go_wp2_with fail
      generalize (w6.setCell ⟨g, i * 6, none⟩ (.string ⟨#[105, 110, 116]⟩)) = wf at *

      refine (Text_any qs _ wf (HT.out _ (HW.out _ HF.out)).1 (HT.out _ (HW.out _ HF.out)).2.1 (HT.out _ (HW.out _ HF.out)).2.2 (HPq.out wf (Below.refl _ _))).mono ?_
      rintro e y0 ⟨⟨rv, rfl, hrv⟩, hy0⟩
      have hrv' : (if Pp.progB qs = true ∧ (Pp.textX qs).length ≤ 6000 then y0.ownsRow wf.heap.size 5 1 rv (Pp.textX qs).length ((Pp.textX qs).map Sh.byV) else rv = .slice none 0 0) := hrv
      rw [if_neg (fun h => by rw [HEq.out] at h; cases h.1)] at hrv'
      subst hrv'
      rw [show (if Pp.progB qs = true then (if (Pp.textX qs).length ≤ 6000 then (0 : Int) else 2) else 4) = 4 from by rw [HEq.out]; rfl]
      have HY0 := hide (HF.out.trans (hy0.mono HF.out.size))
      have HX0 := hide hy0
      have e0 := HC.out _ HY0.out
      have e1 := cell_box ((hy0.block _ (Ow.lt_of_blk HQf.out)).trans HQf.out) 0
      clear hy0 hrv d0 d1
      go_wp2_with fail
      refine (Check_any cs _ _ (HT.out _ (HW.out _ HY0.out)).1 (HP.out _ (HW.out _ HY0.out))).mono ?_
      rintro e y1 ⟨rfl, hy1⟩
      rw [if_pos HE.out]
      have HY1 := hide (HY0.out.trans (hy1.mono HY0.out.size))
      have HX1 := hide (HX0.out.trans (hy1.mono HX0.out.size))
      have d1 := cell_box ((HX1.out.block _ (Ow.lt_of_blk HQf.out)).trans HQf.out) 0
      clear hy1 e0 e1
      go_wp2_with fail
      refine (Check_any qs _ y1 (HT.out _ (HW.out _ HY1.out)).1 (HPq.out _ HX1.out)).mono ?_
      rintro e y2 ⟨rfl, hy2⟩
      rw [show (if Pp.progB qs = true then (0 : Int) else 4) = 4 from by rw [HEq.out]; rfl]
      have HY2 := hide (HY1.out.trans (hy2.mono HY1.out.size))
      clear hy2 d1
      go_wp2_with fail
      refine (wakes_any y2 (HT.out _ (HW.out _ HY2.out)).1 (HT.out _ (HW.out _ HY2.out)).2.1 (HT.out _ (HW.out _ HY2.out)).2.2).mono ?_
      rintro e y3 ⟨rfl, hy3⟩
      have HY3 := hide (HY2.out.trans (hy3.mono HY2.out.size))
      clear hy3
      go_wp2_with fail
      go_ret
      exact ⟨rfl, HW.out _ HY3.out⟩
end Go.Proofs.YtdgfidaopkcjoabDoor

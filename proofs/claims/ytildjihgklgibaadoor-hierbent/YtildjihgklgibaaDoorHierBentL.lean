/- HierBent: the walk. -/
import Derived.Test.YtildjihgklgibaaDoorRefHE
import Derived.Test.YtildjihgklgibaaDoorRefHF
import Derived.Test.YtildjihgklgibaaDoorHierBentP
import Derived.Test.YtildjihgklgibaaDoorHeavyX
import Derived.Deep.Cut
namespace Go.Proofs.YtildjihgklgibaaDoor
open Go.RowKit
set_option linter.unusedVariables false
set_option linter.unusedSimpArgs false

theorem mod_lenHierBent (n : Int) (c : Nat) (hc : 0 < c) (hc2 : c ≤ 100000) : ∃ m : Nat, m < c ∧ wrap64 ((IntKind.u64.wrap n).tmod (c : Int)) = (m : Int) := by
  have h0 : 0 ≤ IntKind.u64.wrap n := by
    rw [IntKind.wrap_u64]; omega
  generalize IntKind.u64.wrap n = u at h0
  have h1 : 0 ≤ u.tmod (c : Int) := Int.tmod_nonneg _ h0
  have h2 : u.tmod (c : Int) < (c : Int) := Int.tmod_lt_of_pos _ (by omega)
  generalize u.tmod (c : Int) = r at h1 h2
  refine ⟨r.toNat, by omega, ?_⟩
  unfold wrap64; omega

namespace Ow
theorem Flat.put1 {α : Type} {P : α → List Value → Prop} {sz : Nat} (hs : Shp P sz) {x x' : α} {j : Nat} {u : Value} (hp : ∀ a, P x a → P x' (a.set j u)) (hj : j < sz) : ∀ {l : List α} {ys : List Value} (i : Nat), Flat P l ys → l[i]? = some x → Flat P (l.set i x') (ys.set (i * sz + j) u)
  | [], _, i, _, h => by simp at h
  | y :: l, _, 0, ⟨a, b, e, hx, hl⟩, h => by
    simp at h; subst h; subst e
    rw [Nat.zero_mul, Nat.zero_add, List.set_append_left _ _ (by rw [(hs _ _ hx).1]; exact hj)]
    exact ⟨_, b, rfl, hp a hx, hl⟩
  | y :: l, _, i + 1, ⟨a, b, e, hx, hl⟩, h => by
    subst e
    rw [show (i + 1) * sz + j = a.length + (i * sz + j) from by rw [(hs _ _ hx).1, Nat.succ_mul]; omega, List.set_append_right _ _ (Nat.le_add_right _ _), Nat.add_sub_cancel_left]
    exact ⟨a, _, rfl, hx, Flat.put1 hs hp hj i hl (by simpa using h)⟩
/-- One cell of an item put over another. -/
theorem OwnX.put1 {α : Type} {P : α → List Value → Prop} {sz base e g n c : Nat} {w : World} {l : List α} (h : OwnX w base e sz P (.slice (some ⟨g, 0, none⟩) n c) l) (hs : Shp P sz) {i j : Nat} {x x' : α} {u : Value} (hx : l[i]? = some x) (hj : j < sz) (hp : ∀ a, P x a → P x' (a.set j u)) : OwnX (w.setCell ⟨g, i * sz + j, none⟩ u) base e sz P (.slice (some ⟨g, 0, none⟩) n c) (l.set i x') := by
  obtain ⟨news, hf, h1, h2⟩ := h
  rcases h2 with ⟨e0, _⟩ | ⟨g', cap, cur, e0, hb, hg, hnc, hm, hcs, htk⟩
  · cases e0
  · cases e0
    obtain ⟨c', k1, k2, k3⟩ := blk_setCells [u] (i * sz + j) hg
    refine ⟨news.set (i * sz + j) u, hf.put1 hs hp hj i hx, by rw [List.length_set, h1, List.length_set], .inr ⟨g, c, c', by rw [List.length_set], hb, k1, by rw [List.length_set]; exact hnc, hm, by rw [k2, hcs], ?_⟩⟩
    rw [k3]
    show (setLL cur.toList (i * sz + j) [u]).take _ = setLL news (i * sz + j) [u]
    rw [take_setLL, List.length_set, htk]
end Ow
theorem how5 (n : Int) : ∃ r : Int, (IntKind.u64.wrap n).tmod 5 = r ∧ (r = 0 ∨ r = 1 ∨ r = 2 ∨ r = 3 ∨ r = 4) := by
  have h0 : 0 ≤ IntKind.u64.wrap n := by rw [IntKind.wrap_u64]; omega
  generalize IntKind.u64.wrap n = u at h0
  have h1 : 0 ≤ u.tmod 5 := Int.tmod_nonneg _ h0
  have h2 : u.tmod 5 < 5 := Int.tmod_lt_of_pos _ (by omega)
  exact ⟨_, rfl, by omega⟩

set_option maxRecDepth 100000 in
set_option maxHeartbeats 16000000 in
theorem hierBent_walk (v : Value) (cs : List Pp.XCls) (a : Int) (b : Int) (w : World) (ht : TabS w) (h : ProgX w v cs) :
    Calls Tryd.prog 7 #[.agg #[v], .int .i64 a, .int .i64 b] w fun e w' => e = .returned (.bool true) ∧ Below w.heap.size w w' := by
  have HP := hide (fun wx (hb : Below w.heap.size w wx) => h.on hb)
  have HT := hide (fun wx (hb : Below w.heap.size w wx) => ht.below hb)
  obtain ⟨pa, pc, rfl, _⟩ := h.1.len
  obtain ⟨n, hn'⟩ : ∃ n, n = cs.length := ⟨_, rfl⟩
  have HN := hide hn'
  rw [← hn'] at HP ⊢
  clear h ht hn'
  have hx0 := hide (heap_alloc_new w (.cells #[.slice pa n pc] 24))
  have HB0 := hide ((Below.refl w.heap.size w).alloc (Nat.le_refl _) (.cells #[.slice pa n pc] 24))
  go_enter Tryd.func7, Tryd.ntmps7
  go_wp2_with fail
  generalize w.alloc (.cells #[.slice pa n pc] 24) = w0 at *
  have HC : Hid (∀ wx, Below w0.heap.size w0 wx → wx.cell? ⟨w.heap.size, 0, none⟩ = some (.slice pa n pc)) := hide fun wx hb => cell_box ((hb.block _ (Ow.lt_of_blk hx0.out)).trans hx0.out) 0
  have HW : Hid (∀ wx, Below w0.heap.size w0 wx → Below w.heap.size w wx) := hide fun wx hb => HB0.out.trans (hb.mono HB0.out.size)
  clear hx0
  refine (Heavy_any cs _ w0 (HP.out w0 HB0.out)).mono ?_
  rintro e w1 ⟨⟨b, rfl, hlb⟩, hb1⟩
  have HB1 := hide hb1
  clear hb1
  cases b with
  | true =>
    go_wp2_with fail
    go_ret
    exact ⟨rfl, HW.out _ HB1.out⟩
  | false =>
    have HLt := hide (hlb rfl)
    have c1 := HC.out w1 HB1.out
    clear hlb
    go_wp2_with fail
    refine (RHier_any cs _ w1 (HP.out _ (HW.out _ HB1.out)) HLt.out).mono ?_
    rintro e w2 ⟨rfl, hb2⟩
    have HB2 := hide (HB1.out.trans (hb2.mono HB1.out.size))
    have c2 := HC.out w2 HB2.out
    clear hb2 c1
    by_cases he : Hr.errL cs ≠ 0
    · generalize Hr.errL cs = er at *
      have he' : (er != 0) = true := by simpa using he
      go_wp2_with fail
      go_ret
      exact ⟨rfl, HW.out _ HB2.out⟩
    have HE := hide (show Hr.errL cs = 0 by simpa using he)
    rw [HE.out]
    clear he
    by_cases hn0 : n = 0
    · have hn0' : (n : Int) = 0 := by omega
      go_wp2_with fail
      go_ret
      exact ⟨rfl, HW.out _ HB2.out⟩
    have hn0' : ¬ ((n : Int) = 0) := by omega
    by_cases hn10 : 10 ≤ n
    · have hn10' : (10 : Int) ≤ (n : Int) := by omega
      go_wp2_with fail
      go_ret
      exact ⟨rfl, HW.out _ HB2.out⟩
    have hn9 : (n : Int) < 10 := by omega
    have hz0 : ((n : Int) == 0) = false := by simp; omega
    have hz1 : decide ((10 : Int) ≤ (n : Int)) = false := by simp; omega
    have HN10 : Hid (cs.length < 10) := hide (by rw [← HN.out]; omega)
    go_wp2_with fail
    refine (TwinProgram_any cs _ w2 (HP.out _ (HW.out _ HB2.out)) HLt.out).mono ?_
    rintro e w4 ⟨vt, rfl, hpt, hb4⟩
    have HB4 := hide (HB2.out.trans (hb4.mono HB2.out.size))
    obtain ⟨g, tc, cur, rfl, hgb, hgc, hcl⟩ := hpt.1.cells Ow.shp_cls (by rw [← HN.out]; omega)
    rw [← HN.out] at hpt ⊢
    have HGb : Hid (w0.heap.size ≤ g) := hide (Nat.le_trans HB2.out.size hgb)
    have hA := (Below.refl w4.heap.size w4).alloc (Nat.le_refl _) (.cells #[.slice (some ⟨g, 0, none⟩) n tc] 24)
    have HQ5 := hide (heap_alloc_new w4 (.cells #[.slice (some ⟨g, 0, none⟩) n tc] 24))
    have HG5 := hide ((hA.block _ (Ow.lt_of_blk hgc)).trans hgc)
    have HO5 := hide ((hpt.1.on hA fun _ _ h => h.on hA (Nat.le_refl _)).low (base' := w0.heap.size) HB2.out.size fun _ _ h => h.on (Below.refl _ _) HB2.out.size)
    have HB5 := hide (HB4.out.trans (hA.mono HB4.out.size))
    have HCl := hide (fun k x (h : cs[k]? = some x) => hcl k x h)
    have hq0 := cell_box HQ5.out 0
    obtain ⟨i, hi, HI⟩ := mod_lenHierBent a n (by omega) (by omega)
    obtain ⟨r, hr, hr5⟩ := how5 b
    have hwn : IntKind.u64.wrap (n : Int) = (n : Int) := by rw [IntKind.wrap_u64]; omega
    have hi' : (i : Int) < (n : Int) := by omega
    obtain ⟨c, hc⟩ : ∃ c, cs[i]? = some c := ⟨cs[i]'(by rw [← HN.out]; exact hi), List.getElem?_eq_getElem _⟩
    have HIc := hide hc
    have hn00 : ¬ n = 0 := hn0
    have HX4 : Hid (w4.heap.size < w4.heap.size + 1) := hide (Nat.lt_succ_self _)
    obtain ⟨v3, vf, vm, HNm⟩ : ∃ v3 vf vm, Hid (∀ wx, Below w4.heap.size w4 wx → wx.cell? ⟨g, i * 6, none⟩ = some (.string ⟨c.name.toArray⟩) ∧ wx.cell? ⟨g, i * 6 + 1, none⟩ = some (.bool c.iface) ∧ wx.cell? ⟨g, i * 6 + 2, none⟩ = some (.string ⟨c.super.toArray⟩) ∧ wx.cell? ⟨g, i * 6 + 3, none⟩ = some (.slice v3 vf vm)) := by
      obtain ⟨ys, ⟨vp, vc, vk, rfl, p1, _⟩, hcc⟩ := HCl.out i c hc
      obtain ⟨a3, n3, rfl⟩ := p1.shape
      exact ⟨a3, _, n3, hide fun wx hb => ⟨(hb.cell (p := ⟨g, i * 6, none⟩) (Ow.lt_of_blk hgc)).trans (hcc 0 _ rfl), (hb.cell (p := ⟨g, i * 6 + 1, none⟩) (Ow.lt_of_blk hgc)).trans (hcc 1 _ rfl), (hb.cell (p := ⟨g, i * 6 + 2, none⟩) (Ow.lt_of_blk hgc)).trans (hcc 2 _ rfl), (hb.cell (p := ⟨g, i * 6 + 3, none⟩) (Ow.lt_of_blk hgc)).trans (hcc 3 _ rfl)⟩⟩
    have HNL : Hid (c.name.length ≤ maxLen) := hide (by obtain ⟨ys, ⟨vp, vc, vk, _, _, _, _, l1, _⟩, _⟩ := HCl.out i c hc; exact l1)
    have HN5 := hide (fun wx hb => HNm.out wx (hA.trans ((hb : Below (w4.alloc (.cells #[.slice (some ⟨g, 0, none⟩) n tc] 24)).heap.size (w4.alloc (.cells #[.slice (some ⟨g, 0, none⟩) n tc] 24)) wx).mono hA.size)))
    have c5 := HC.out _ HB5.out
    clear hA hb4 hpt hgb hgc hcl c2 hc HNm HCl HX4
    go_upto_region 4 with fail
    generalize w4.alloc (.cells #[.slice (some ⟨g, 0, none⟩) n tc] 24) = w5 at *
    obtain ⟨r0, r1, r2, r3⟩ := HN5.out w5 (Below.refl _ _)
    rcases hr5 with rfl | rfl | rfl | rfl | rfl
    · obtain ⟨j0, hj, hj0, hj1, hj2⟩ := Ow.info_of Ow.i_cls
      have HD : Hid (Below w5.heap.size w5 w5.drew) := hide (Below.drew (Below.refl _ _))
      have hA6 : Below w5.heap.size w5 (w5.alloc (.cells #[.string ⟨c.name.toArray⟩, .bool false, .string ⟨#[]⟩, .slice none 0 0, .slice none 0 0, .slice none 0 0] 33)).drew := Below.drew ((Below.refl w5.heap.size w5).alloc (Nat.le_refl _) (.cells #[.string ⟨c.name.toArray⟩, .bool false, .string ⟨#[]⟩, .slice none 0 0, .slice none 0 0, .slice none 0 0] 33))
      have HB6 := hide (HB5.out.trans (hA6.mono HB5.out.size))
      have HQ6 := hide ((hA6.block _ (Ow.lt_of_blk HQ5.out)).trans HQ5.out)
      have HO6 := hide (HO5.out.on hA6 fun _ _ h => h.on hA6 (Nat.le_refl _))
      have HR6 : Hid (RowX (w5.alloc (.cells #[.string ⟨c.name.toArray⟩, .bool false, .string ⟨#[]⟩, .slice none 0 0, .slice none 0 0, .slice none 0 0] 33)).drew 6 (Ow.ClsO (w5.alloc (.cells #[.string ⟨c.name.toArray⟩, .bool false, .string ⟨#[]⟩, .slice none 0 0, .slice none 0 0, .slice none 0 0] 33)).drew w0.heap.size) (.slice (some ⟨w5.heap.size, 0, none⟩) 1 1) [Hr.plain c.name []]) := hide (Hr.row_one (show (w5.alloc (.cells #[.string ⟨c.name.toArray⟩, .bool false, .string ⟨#[]⟩, .slice none 0 0, .slice none 0 0, .slice none 0 0] 33)).heap[w5.heap.size]? = _ from heap_alloc_new w5 _) ((Hr.bas_plain (n := c.name) (s := []) HNL.out (by decide)).o _ _))
      have e0 := (HN5.out _ HD.out).1
      have e1 : (w5.alloc (.cells #[.string ⟨c.name.toArray⟩, .bool false, .string ⟨#[]⟩, .slice none 0 0, .slice none 0 0, .slice none 0 0] 33)).cell? ⟨g, i * 6, none⟩ = some (.string ⟨c.name.toArray⟩) := (HN5.out _ hA6).1
      have q0 := cell_box ((HD.out.block _ (Ow.lt_of_blk HQ5.out)).trans HQ5.out) 0
      have q1 : (w5.alloc (.cells #[.string ⟨c.name.toArray⟩, .bool false, .string ⟨#[]⟩, .slice none 0 0, .slice none 0 0, .slice none 0 0] 33)).cell? ⟨w4.heap.size, 0, none⟩ = some (.slice (some ⟨g, 0, none⟩) n tc) := cell_box HQ6.out 0
      clear hA6
      go_wp2_with fail
      go_region_law (first
        | (refine Ow.step_app rfl (.tmp 54) (.tmp 60) 22 rfl Tryd.underlying22 hj hj0 hj1 hj2 (by decide) Ow.shp_cls (by first | rfl | simp [Act.eval, Act.put]) HO6.out (by first | rfl | simp [Act.eval, Act.put]) HR6.out (by have := HN10.out; simp; omega) (by decide) HB6.out.size ?_
           intro v' w10 hown hgrow
           have hkx := Ow.kx_grown HO6.out hgrow
           have HB10 := hide (HB6.out.trans (Ow.bel_grown HO6.out HB6.out.size hgrow))
           have HO10 : Hid (Ow.OwnX w10 w0.heap.size 33 6 (Ow.ClsO w10 w0.heap.size) v' (cs ++ [Hr.plain c.name []])) := hide (hown.low (Nat.le_refl _) fun _ _ h => h.kx hkx (by decide) (by decide) (by decide) (by decide) (by decide) (by decide))
           have HT10 := hide (hkx.blk _ _ _ _ HQ6.out (by decide))
           obtain ⟨xa, xc, hv'⟩ := hown.shape
           obtain ⟨nr, hnr⟩ : ∃ q, q = (cs ++ [Hr.plain c.name []]).length := ⟨_, rfl⟩
           rw [← hnr] at hv'
           subst hv'
           clear hnr
           have f10 := Ow.fz_blk HT10.out 0
           have t10 := cell_box HT10.out 0
           clear hown hgrow hkx))
      all_goals
        have HQf : Hid ((w10.setCell ⟨w4.heap.size, 0, none⟩ (.slice xa nr xc)).heap[w4.heap.size]? = some (.cells #[.slice xa nr xc] 24 (0, 0))) := hide (Ow.blk_put HT10.out 0 (.slice xa nr xc))
        have hK2 : Ow.Kx 24 w10 (w10.setCell ⟨w4.heap.size, 0, none⟩ (.slice xa nr xc)) := Ow.Kx.set ⟨_, _, HT10.out⟩ 0 (.slice xa nr xc)
        have HF : Hid (Below w0.heap.size w0 (w10.setCell ⟨w4.heap.size, 0, none⟩ (.slice xa nr xc))) := hide (HB10.out.trans ((Below.refl _ _).setCell (p := ⟨w4.heap.size, 0, none⟩) HB4.out.size (.slice xa nr xc)))
        have HEq := hide (Hr.bent0 HE.out HN10.out HIc.out)
        have HOf := hide (HO10.out.kx hK2 (by decide) fun _ _ h => h.kx hK2 (by decide) (by decide) (by decide) (by decide) (by decide) (by decide))
        have HPq : Hid (∀ wx, Below (w10.setCell ⟨w4.heap.size, 0, none⟩ (.slice xa nr xc)).heap.size (w10.setCell ⟨w4.heap.size, 0, none⟩ (.slice xa nr xc)) wx → ProgX wx (.slice xa nr xc) (cs ++ [Hr.plain c.name []])) := hide fun wx hb => (Ow.ProgO.x (base := w0.heap.size) ⟨HOf.out, by have := HN10.out; rw [List.length_append]; show cs.length + 1 ≤ maxLen; unfold maxLen; omega⟩).on hb
        have d0 := HC.out _ HF.out
        clear hK2 f10 t10
        generalize w10.setCell ⟨w4.heap.size, 0, none⟩ (.slice xa nr xc) = wf at *
        go_wp2_with fail
        refine (hCheck_any cs _ _ (HT.out _ (HW.out _ HF.out)) (HP.out _ (HW.out _ HF.out))).mono ?_
        rintro e y1 ⟨rfl, hy1⟩
        rw [HE.out]
        have HY1 := hide (HF.out.trans (hy1.mono HF.out.size))
        have HX1 := hide hy1
        have d1 := cell_box ((hy1.block _ (Ow.lt_of_blk HQf.out)).trans HQf.out) 0
        clear hy1
        go_wp2_with fail
        refine (hCheck_any (cs ++ [Hr.plain c.name []]) _ y1 (HT.out _ (HW.out _ HY1.out)) (HPq.out _ HX1.out)).mono ?_
        rintro e y2 ⟨rfl, hy2⟩
        rw [HEq.out]
        have HY2 := hide (HY1.out.trans (hy2.mono HY1.out.size))
        have HX2 := hide (HX1.out.trans (hy2.mono HX1.out.size))
        have d2 := cell_box ((HX2.out.block _ (Ow.lt_of_blk HQf.out)).trans HQf.out) 0
        clear hy2 d1
        go_wp2_with fail
        refine (Kinds_any (cs ++ [Hr.plain c.name []]) _ Hr.objN y2 (HT.out _ (HW.out _ HY2.out)) (HPq.out _ HX2.out)).mono ?_
        rintro e y3 ⟨vk, rfl, hok, hy3⟩
        rw [Hr.kinds_bad (by rw [HEq.out]; decide)] at hok
        obtain ⟨ka, kc, rfl⟩ := hok.shape
        have HY3 := hide (HY2.out.trans (hy3.mono HY2.out.size))
        have HX3 := hide (HX2.out.trans (hy3.mono HX2.out.size))
        have d3 := cell_box ((HX3.out.block _ (Ow.lt_of_blk HQf.out)).trans HQf.out) 0
        clear hy3 d2 hok
        simp only [List.length_nil]
        go_wp2_with fail
        refine (Under_any (cs ++ [Hr.plain c.name []]) _ Hr.errN Hr.objN y3 (HT.out _ (HW.out _ HY3.out)) (HPq.out _ HX3.out)).mono ?_
        rintro e y4 ⟨hy, hy4⟩
        obtain rfl := hy.f (fun h => by have := (Hr.underB_iff _ _ _).2 h; rw [Hr.under_bad (by rw [HEq.out]; decide)] at this; cases this)
        have HY4 := hide (HY3.out.trans (hy4.mono HY3.out.size))
        clear hy4 hy d3
        go_wp2_with fail
        refine (hwakes_any y4 (HT.out _ (HW.out _ HY4.out))).mono ?_
        rintro e y5 ⟨rfl, hy5⟩
        have HY5 := hide (HY4.out.trans (hy5.mono HY4.out.size))
        clear hy5
        go_wp2_with fail
        go_ret
        exact ⟨rfl, HW.out _ HY5.out⟩
    · have HFd := hide (Find_any cs _ Hr.nsN w5 (HT.out _ (HW.out _ HB5.out)) (HP.out _ (HW.out _ HB5.out)) HLt.out)
      go_wp2_with fail
      refine HFd.out.mono ?_
      rintro e w7 ⟨hfi, hb7⟩
      unfold Hr.FindIs at hfi
      rw [Hr.lookL_yes HE.out] at hfi
      clear HFd
      cases hlk : Hr.placeL (Hr.allL cs) Hr.nsN with
      | some k =>
        rw [hlk] at hfi
        obtain ⟨x', ys, hx', rfl, hys⟩ := hfi
        obtain ⟨vp, vc, vk, rfl, p1, i1, k1, -⟩ := hys
        obtain ⟨va1, vd1, rfl⟩ := p1.shape
        obtain ⟨va2, vd2, rfl⟩ := i1.shape
        obtain ⟨va3, vd3, rfl⟩ := k1.shape
        have hA8 : Below w5.heap.size w5 (w7.alloc (.cells #[.string ⟨x'.name.toArray⟩, .bool x'.iface, .string ⟨x'.super.toArray⟩, .slice va1 x'.ifaces.length vd1, .slice va2 x'.fields.length vd2, .slice va3 x'.methods.length vd3] 33)) := hb7.alloc hb7.size _
        have HBL := hide (HB5.out.trans (hA8.mono HB5.out.size))
        obtain ⟨s0, s1, s2, s3⟩ := HN5.out _ hA8
        have d0 := HC.out _ HBL.out
        clear p1 i1 k1 hb7 hA8 hlk
        simp only [clsXL, List.toArray]
        generalize hci : c.iface = ci at *
        clear hci
        cases ci with
        | true =>
          go_wp2_with fail
          refine (hwakes_any _ (HT.out _ (HW.out _ HBL.out))).mono ?_
          rintro e y5 ⟨rfl, hy5⟩
          have HY5 := hide (HBL.out.trans (hy5.mono HBL.out.size))
          clear hy5
          go_wp2_with fail
          go_ret
          exact ⟨rfl, HW.out _ HY5.out⟩
        | false =>
          go_wp2_with fail
          refine (hwakes_any _ (HT.out _ (HW.out _ HBL.out))).mono ?_
          rintro e y5 ⟨rfl, hy5⟩
          have HY5 := hide (HBL.out.trans (hy5.mono HBL.out.size))
          clear hy5
          go_wp2_with fail
          go_ret
          exact ⟨rfl, HW.out _ HY5.out⟩
      | none =>
        rw [hlk] at hfi
        simp only at hfi
        subst hfi
        have HNS := hide hlk
        have HNC : Hid (Hr.placeL cs Hr.nsN = none) := hide (Hr.placeL_none.2 fun j d hd => Hr.placeL_none.1 hlk (8 + j) d (by rw [Hr.all_at]; exact hd))
        have hA8 : Below w5.heap.size w5 (w7.alloc (.cells #[.string ⟨#[]⟩, .bool false, .string ⟨#[]⟩, .slice none 0 0, .slice none 0 0, .slice none 0 0] 33)) := hb7.alloc hb7.size _
        have HBL := hide (HB5.out.trans (hA8.mono HB5.out.size))
        have HQL := hide ((hA8.block _ (Ow.lt_of_blk HQ5.out)).trans HQ5.out)
        have HGL := hide ((hA8.block _ (Ow.lt_of_blk HG5.out)).trans HG5.out)
        have HOL := hide (HO5.out.on hA8 fun _ _ h => h.on hA8 (Nat.le_refl _))
        obtain ⟨s0, s1, s2, s3⟩ := HN5.out _ hA8
        have d0 := HC.out _ HBL.out
        have HRA := hide (fun wx (hb : Below w0.heap.size w0 wx) => RAt_any cs _ Hr.nsN wx (HP.out _ (HW.out _ hb)).1 (HP.out _ (HW.out _ hb)).2)
        rw [HNC.out] at HRA
        simp only [Hr.placeI] at HRA
        have HA8 := hide hA8
        clear hb7 hA8 hlk
        cases hif : c.iface with
        | true =>
          rw [hif] at s1
          clear hif
          go_wp2_with fail
          refine (hwakes_any _ (HT.out _ (HW.out _ HBL.out))).mono ?_
          rintro e y5 ⟨rfl, hy5⟩
          have HY5 := hide (HBL.out.trans (hy5.mono HBL.out.size))
          clear hy5
          go_wp2_with fail
          go_ret
          exact ⟨rfl, HW.out _ HY5.out⟩
        | false =>
          rw [hif] at s1
          go_wp2_with fail
          generalize w7.alloc (.cells #[.string ⟨#[]⟩, .bool false, .string ⟨#[]⟩, .slice none 0 0, .slice none 0 0, .slice none 0 0] 33) = w8 at *
          refine (HRA.out w8 HBL.out).mono ?_
          rintro e w6 ⟨rfl, hb6⟩
          have HA6 := hide (HA8.out.trans (hb6.mono HA8.out.size))
          have HB6 := hide (HBL.out.trans (hb6.mono HBL.out.size))
          have HQ6 := hide ((hb6.block _ (Ow.lt_of_blk HQL.out)).trans HQL.out)
          have HG6 := hide ((hb6.block _ (Ow.lt_of_blk HGL.out)).trans HGL.out)
          have HO6 := hide (HOL.out.on hb6 fun _ _ h => h.on hb6 (Nat.le_refl _))
          obtain ⟨u0, u1, u2, u3⟩ := HN5.out _ HA6.out
          clear hb6 s0 s1 s2 s3 d0 HRA
          have hG := HG6.out
          have f2 := Ow.fz_blk hG (i * 6 + 2)
          have HK : Hid (Ow.Kx 33 w6 (w6.setCell ⟨g, i * 6 + 2, none⟩ (.string ⟨#[78, 111, 110, 101, 95, 115, 117, 99, 104]⟩))) := hide (Ow.Kx.set (t := 33) ⟨_, _, hG⟩ (i * 6 + 2) (.string ⟨#[78, 111, 110, 101, 95, 115, 117, 99, 104]⟩))
          have HF : Hid (Below w0.heap.size w0 (w6.setCell ⟨g, i * 6 + 2, none⟩ (.string ⟨#[78, 111, 110, 101, 95, 115, 117, 99, 104]⟩))) := hide (HB6.out.trans ((Below.refl _ _).setCell (p := ⟨g, i * 6 + 2, none⟩) HGb.out (.string ⟨#[78, 111, 110, 101, 95, 115, 117, 99, 104]⟩)))
          have HQf : Hid ((w6.setCell ⟨g, i * 6 + 2, none⟩ (.string ⟨#[78, 111, 110, 101, 95, 115, 117, 99, 104]⟩)).heap[w4.heap.size]? = some (.cells #[.slice (some ⟨g, 0, none⟩) n tc] 24 (0, 0))) := hide (HK.out.blk _ _ _ _ HQ6.out (by decide))
          have HEq := hide (Hr.bent1 HE.out HIc.out hif HNS.out)
          have HPq : Hid (∀ wx, Below (w6.setCell ⟨g, i * 6 + 2, none⟩ (.string ⟨#[78, 111, 110, 101, 95, 115, 117, 99, 104]⟩)).heap.size (w6.setCell ⟨g, i * 6 + 2, none⟩ (.string ⟨#[78, 111, 110, 101, 95, 115, 117, 99, 104]⟩)) wx → ProgX wx (.slice (some ⟨g, 0, none⟩) n tc) (cs.set i { c with super := Hr.nsN })) := hide fun wx hb => by
            have h1 : Ow.OwnX (w6.setCell ⟨g, i * 6 + 2, none⟩ (.string ⟨#[78, 111, 110, 101, 95, 115, 117, 99, 104]⟩)) w0.heap.size 33 6 (Ow.ClsO w6 w0.heap.size) (.slice (some ⟨g, 0, none⟩) n tc) (cs.set i { c with super := Hr.nsN }) := Ow.OwnX.put1 HO6.out Ow.shp_cls (j := 2) (u := .string ⟨#[78, 111, 110, 101, 95, 115, 117, 99, 104]⟩) (x' := { c with super := Hr.nsN }) HIc.out (by decide) (by rintro y ⟨vp, vc, vk, rfl, x1, x2, x3, l1, l2, l3⟩; exact ⟨vp, vc, vk, rfl, x1, x2, x3, l1, (by show Hr.nsN.length ≤ maxLen; decide), l3⟩)
            have h2 : Ow.OwnX (w6.setCell ⟨g, i * 6 + 2, none⟩ (.string ⟨#[78, 111, 110, 101, 95, 115, 117, 99, 104]⟩)) w0.heap.size 33 6 (Ow.ClsO (w6.setCell ⟨g, i * 6 + 2, none⟩ (.string ⟨#[78, 111, 110, 101, 95, 115, 117, 99, 104]⟩)) w0.heap.size) (.slice (some ⟨g, 0, none⟩) n tc) (cs.set i { c with super := Hr.nsN }) := h1.low (Nat.le_refl _) fun _ _ h => h.kx HK.out (by decide) (by decide) (by decide) (by decide) (by decide) (by decide)
            exact (Ow.ProgO.x (base := w0.heap.size) ⟨h2, by rw [List.length_set]; exact (HP.out w (Below.refl _ _)).2⟩).on hb
          have d0 := HC.out _ HF.out
          clear hG
          go_wp2_with fail
          generalize (w6.setCell ⟨g, i * 6 + 2, none⟩ (.string ⟨#[78, 111, 110, 101, 95, 115, 117, 99, 104]⟩)) = wf at *

          refine (hCheck_any cs _ _ (HT.out _ (HW.out _ HF.out)) (HP.out _ (HW.out _ HF.out))).mono ?_
          rintro e y1 ⟨rfl, hy1⟩
          rw [HE.out]
          have HY1 := hide (HF.out.trans (hy1.mono HF.out.size))
          have HX1 := hide hy1
          have d1 := cell_box ((hy1.block _ (Ow.lt_of_blk HQf.out)).trans HQf.out) 0
          clear hy1
          go_wp2_with fail
          refine (hCheck_any (cs.set i { c with super := Hr.nsN }) _ y1 (HT.out _ (HW.out _ HY1.out)) (HPq.out _ HX1.out)).mono ?_
          rintro e y2 ⟨rfl, hy2⟩
          rw [HEq.out]
          have HY2 := hide (HY1.out.trans (hy2.mono HY1.out.size))
          have HX2 := hide (HX1.out.trans (hy2.mono HX1.out.size))
          have d2 := cell_box ((HX2.out.block _ (Ow.lt_of_blk HQf.out)).trans HQf.out) 0
          clear hy2 d1
          go_wp2_with fail
          refine (Kinds_any (cs.set i { c with super := Hr.nsN }) _ Hr.objN y2 (HT.out _ (HW.out _ HY2.out)) (HPq.out _ HX2.out)).mono ?_
          rintro e y3 ⟨vk, rfl, hok, hy3⟩
          rw [Hr.kinds_bad (by rw [HEq.out]; decide)] at hok
          obtain ⟨ka, kc, rfl⟩ := hok.shape
          have HY3 := hide (HY2.out.trans (hy3.mono HY2.out.size))
          have HX3 := hide (HX2.out.trans (hy3.mono HX2.out.size))
          have d3 := cell_box ((HX3.out.block _ (Ow.lt_of_blk HQf.out)).trans HQf.out) 0
          clear hy3 d2 hok
          simp only [List.length_nil]
          go_wp2_with fail
          refine (Under_any (cs.set i { c with super := Hr.nsN }) _ Hr.errN Hr.objN y3 (HT.out _ (HW.out _ HY3.out)) (HPq.out _ HX3.out)).mono ?_
          rintro e y4 ⟨hy, hy4⟩
          obtain rfl := hy.f (fun h => by have := (Hr.underB_iff _ _ _).2 h; rw [Hr.under_bad (by rw [HEq.out]; decide)] at this; cases this)
          have HY4 := hide (HY3.out.trans (hy4.mono HY3.out.size))
          clear hy4 hy d3
          go_wp2_with fail
          refine (hwakes_any y4 (HT.out _ (HW.out _ HY4.out))).mono ?_
          rintro e y5 ⟨rfl, hy5⟩
          have HY5 := hide (HY4.out.trans (hy5.mono HY4.out.size))
          clear hy5
          go_wp2_with fail
          go_ret
          exact ⟨rfl, HW.out _ HY5.out⟩
    · have hA6 : Below w5.heap.size w5 (w5.alloc (.cells #[.string ⟨#[79, 98, 106, 101, 99, 116]⟩] 9)) := (Below.refl _ _).alloc (Nat.le_refl _) _
      have HB6 := hide (HB5.out.trans (hA6.mono HB5.out.size))
      have HQ6 := hide ((hA6.block _ (Ow.lt_of_blk HQ5.out)).trans HQ5.out)
      have HG6 := hide ((hA6.block _ (Ow.lt_of_blk HG5.out)).trans HG5.out)
      have HO6 := hide (HO5.out.on hA6 fun _ _ h => h.on hA6 (Nat.le_refl _))
      have HNw := hide (heap_alloc_new w5 (.cells #[.string ⟨#[79, 98, 106, 101, 99, 116]⟩] 9))
      obtain ⟨s0, s1, s2, s3⟩ := HN5.out (w5.alloc (.cells #[.string ⟨#[79, 98, 106, 101, 99, 116]⟩] 9)) hA6
      clear hA6

      have HRw : Hid (Ow.OwnX (w5.alloc (.cells #[.string ⟨#[79, 98, 106, 101, 99, 116]⟩] 9)) w0.heap.size 9 1 StrX (.slice (some ⟨w5.heap.size, 0, none⟩) 1 1) [Hr.objN]) := hide ⟨[.string ⟨#[79, 98, 106, 101, 99, 116]⟩], ⟨[.string ⟨#[79, 98, 106, 101, 99, 116]⟩], [], rfl, ⟨rfl, by decide⟩, rfl⟩, rfl, .inr ⟨w5.heap.size, 1, _, rfl, HB5.out.size, HNw.out, Nat.le_refl _, by decide, rfl, rfl⟩⟩

      have hG := HG6.out
      have f2 := Ow.fz_blk hG (i * 6 + 3)
      have HK : Hid (Ow.Kx 33 (w5.alloc (.cells #[.string ⟨#[79, 98, 106, 101, 99, 116]⟩] 9)) ((w5.alloc (.cells #[.string ⟨#[79, 98, 106, 101, 99, 116]⟩] 9)).setCell ⟨g, i * 6 + 3, none⟩ (.slice (some ⟨w5.heap.size, 0, none⟩) 1 1))) := hide (Ow.Kx.set (t := 33) ⟨_, _, hG⟩ (i * 6 + 3) (.slice (some ⟨w5.heap.size, 0, none⟩) 1 1))
      have HF : Hid (Below w0.heap.size w0 ((w5.alloc (.cells #[.string ⟨#[79, 98, 106, 101, 99, 116]⟩] 9)).setCell ⟨g, i * 6 + 3, none⟩ (.slice (some ⟨w5.heap.size, 0, none⟩) 1 1))) := hide (HB6.out.trans ((Below.refl _ _).setCell (p := ⟨g, i * 6 + 3, none⟩) HGb.out (.slice (some ⟨w5.heap.size, 0, none⟩) 1 1)))
      have HQf : Hid (((w5.alloc (.cells #[.string ⟨#[79, 98, 106, 101, 99, 116]⟩] 9)).setCell ⟨g, i * 6 + 3, none⟩ (.slice (some ⟨w5.heap.size, 0, none⟩) 1 1)).heap[w4.heap.size]? = some (.cells #[.slice (some ⟨g, 0, none⟩) n tc] 24 (0, 0))) := hide (HK.out.blk _ _ _ _ HQ6.out (by decide))
      have HEq := hide (Hr.bent2 HE.out HIc.out)
      have HPq : Hid (∀ wx, Below ((w5.alloc (.cells #[.string ⟨#[79, 98, 106, 101, 99, 116]⟩] 9)).setCell ⟨g, i * 6 + 3, none⟩ (.slice (some ⟨w5.heap.size, 0, none⟩) 1 1)).heap.size ((w5.alloc (.cells #[.string ⟨#[79, 98, 106, 101, 99, 116]⟩] 9)).setCell ⟨g, i * 6 + 3, none⟩ (.slice (some ⟨w5.heap.size, 0, none⟩) 1 1)) wx → ProgX wx (.slice (some ⟨g, 0, none⟩) n tc) (cs.set i { c with ifaces := [Hr.objN] })) := hide fun wx hb => by
        have h1 : Ow.OwnX ((w5.alloc (.cells #[.string ⟨#[79, 98, 106, 101, 99, 116]⟩] 9)).setCell ⟨g, i * 6 + 3, none⟩ (.slice (some ⟨w5.heap.size, 0, none⟩) 1 1)) w0.heap.size 33 6 (Ow.ClsO (w5.alloc (.cells #[.string ⟨#[79, 98, 106, 101, 99, 116]⟩] 9)) w0.heap.size) (.slice (some ⟨g, 0, none⟩) n tc) (cs.set i { c with ifaces := [Hr.objN] }) := Ow.OwnX.put1 HO6.out Ow.shp_cls (j := 3) (u := .slice (some ⟨w5.heap.size, 0, none⟩) 1 1) (x' := { c with ifaces := [Hr.objN] }) HIc.out (by decide) (by rintro y ⟨vp, vc, vk, rfl, x1, x2, x3, l1, l2, l3, l4⟩; exact ⟨_, vc, vk, rfl, HRw.out, x2, x3, l1, l2, (by show 1 ≤ maxLen; unfold maxLen; omega), l4⟩)
        have h2 : Ow.OwnX ((w5.alloc (.cells #[.string ⟨#[79, 98, 106, 101, 99, 116]⟩] 9)).setCell ⟨g, i * 6 + 3, none⟩ (.slice (some ⟨w5.heap.size, 0, none⟩) 1 1)) w0.heap.size 33 6 (Ow.ClsO ((w5.alloc (.cells #[.string ⟨#[79, 98, 106, 101, 99, 116]⟩] 9)).setCell ⟨g, i * 6 + 3, none⟩ (.slice (some ⟨w5.heap.size, 0, none⟩) 1 1)) w0.heap.size) (.slice (some ⟨g, 0, none⟩) n tc) (cs.set i { c with ifaces := [Hr.objN] }) := h1.low (Nat.le_refl _) fun _ _ h => h.kx HK.out (by decide) (by decide) (by decide) (by decide) (by decide) (by decide)
        exact (Ow.ProgO.x (base := w0.heap.size) ⟨h2, by rw [List.length_set]; exact (HP.out w (Below.refl _ _)).2⟩).on hb
      have d0 := HC.out _ HF.out
      clear hG
      go_wp2_with fail
      generalize ((w5.alloc (.cells #[.string ⟨#[79, 98, 106, 101, 99, 116]⟩] 9)).setCell ⟨g, i * 6 + 3, none⟩ (.slice (some ⟨w5.heap.size, 0, none⟩) 1 1)) = wf at *

      refine (hCheck_any cs _ _ (HT.out _ (HW.out _ HF.out)) (HP.out _ (HW.out _ HF.out))).mono ?_
      rintro e y1 ⟨rfl, hy1⟩
      rw [HE.out]
      have HY1 := hide (HF.out.trans (hy1.mono HF.out.size))
      have HX1 := hide hy1
      have d1 := cell_box ((hy1.block _ (Ow.lt_of_blk HQf.out)).trans HQf.out) 0
      clear hy1
      go_wp2_with fail
      refine (hCheck_any (cs.set i { c with ifaces := [Hr.objN] }) _ y1 (HT.out _ (HW.out _ HY1.out)) (HPq.out _ HX1.out)).mono ?_
      rintro e y2 ⟨rfl, hy2⟩
      rw [HEq.out]
      have HY2 := hide (HY1.out.trans (hy2.mono HY1.out.size))
      have HX2 := hide (HX1.out.trans (hy2.mono HX1.out.size))
      have d2 := cell_box ((HX2.out.block _ (Ow.lt_of_blk HQf.out)).trans HQf.out) 0
      clear hy2 d1
      go_wp2_with fail
      refine (Kinds_any (cs.set i { c with ifaces := [Hr.objN] }) _ Hr.objN y2 (HT.out _ (HW.out _ HY2.out)) (HPq.out _ HX2.out)).mono ?_
      rintro e y3 ⟨vk, rfl, hok, hy3⟩
      rw [Hr.kinds_bad (by rw [HEq.out]; decide)] at hok
      obtain ⟨ka, kc, rfl⟩ := hok.shape
      have HY3 := hide (HY2.out.trans (hy3.mono HY2.out.size))
      have HX3 := hide (HX2.out.trans (hy3.mono HX2.out.size))
      have d3 := cell_box ((HX3.out.block _ (Ow.lt_of_blk HQf.out)).trans HQf.out) 0
      clear hy3 d2 hok
      simp only [List.length_nil]
      go_wp2_with fail
      refine (Under_any (cs.set i { c with ifaces := [Hr.objN] }) _ Hr.errN Hr.objN y3 (HT.out _ (HW.out _ HY3.out)) (HPq.out _ HX3.out)).mono ?_
      rintro e y4 ⟨hy, hy4⟩
      obtain rfl := hy.f (fun h => by have := (Hr.underB_iff _ _ _).2 h; rw [Hr.under_bad (by rw [HEq.out]; decide)] at this; cases this)
      have HY4 := hide (HY3.out.trans (hy4.mono HY3.out.size))
      clear hy4 hy d3
      go_wp2_with fail
      refine (hwakes_any y4 (HT.out _ (HW.out _ HY4.out))).mono ?_
      rintro e y5 ⟨rfl, hy5⟩
      have HY5 := hide (HY4.out.trans (hy5.mono HY4.out.size))
      clear hy5
      go_wp2_with fail
      go_ret
      exact ⟨rfl, HW.out _ HY5.out⟩
    · cases hif : c.iface with
      | true =>
        rw [hif] at r1
        have hA6 : Below w5.heap.size w5 (w5.alloc (.cells #[.string ⟨c.name.toArray⟩] 9)) := (Below.refl _ _).alloc (Nat.le_refl _) _
        have HB6 := hide (HB5.out.trans (hA6.mono HB5.out.size))
        have HQ6 := hide ((hA6.block _ (Ow.lt_of_blk HQ5.out)).trans HQ5.out)
        have HG6 := hide ((hA6.block _ (Ow.lt_of_blk HG5.out)).trans HG5.out)
        have HO6 := hide (HO5.out.on hA6 fun _ _ h => h.on hA6 (Nat.le_refl _))
        have HNw := hide (heap_alloc_new w5 (.cells #[.string ⟨c.name.toArray⟩] 9))
        obtain ⟨s0, s1, s2, s3⟩ := HN5.out (w5.alloc (.cells #[.string ⟨c.name.toArray⟩] 9)) hA6
        clear hA6

        have HRw : Hid (Ow.OwnX (w5.alloc (.cells #[.string ⟨c.name.toArray⟩] 9)) w0.heap.size 9 1 StrX (.slice (some ⟨w5.heap.size, 0, none⟩) 1 1) [c.name]) := hide ⟨[.string ⟨c.name.toArray⟩], ⟨[.string ⟨c.name.toArray⟩], [], rfl, ⟨rfl, HNL.out⟩, rfl⟩, rfl, .inr ⟨w5.heap.size, 1, _, rfl, HB5.out.size, HNw.out, Nat.le_refl _, by decide, rfl, rfl⟩⟩

        have hG := HG6.out
        have f2 := Ow.fz_blk hG (i * 6 + 3)
        have HK : Hid (Ow.Kx 33 (w5.alloc (.cells #[.string ⟨c.name.toArray⟩] 9)) ((w5.alloc (.cells #[.string ⟨c.name.toArray⟩] 9)).setCell ⟨g, i * 6 + 3, none⟩ (.slice (some ⟨w5.heap.size, 0, none⟩) 1 1))) := hide (Ow.Kx.set (t := 33) ⟨_, _, hG⟩ (i * 6 + 3) (.slice (some ⟨w5.heap.size, 0, none⟩) 1 1))
        have HF : Hid (Below w0.heap.size w0 ((w5.alloc (.cells #[.string ⟨c.name.toArray⟩] 9)).setCell ⟨g, i * 6 + 3, none⟩ (.slice (some ⟨w5.heap.size, 0, none⟩) 1 1))) := hide (HB6.out.trans ((Below.refl _ _).setCell (p := ⟨g, i * 6 + 3, none⟩) HGb.out (.slice (some ⟨w5.heap.size, 0, none⟩) 1 1)))
        have HQf : Hid (((w5.alloc (.cells #[.string ⟨c.name.toArray⟩] 9)).setCell ⟨g, i * 6 + 3, none⟩ (.slice (some ⟨w5.heap.size, 0, none⟩) 1 1)).heap[w4.heap.size]? = some (.cells #[.slice (some ⟨g, 0, none⟩) n tc] 24 (0, 0))) := hide (HK.out.blk _ _ _ _ HQ6.out (by decide))
        have HEq := hide (Hr.bent3i HE.out HIc.out hif)
        have HPq : Hid (∀ wx, Below ((w5.alloc (.cells #[.string ⟨c.name.toArray⟩] 9)).setCell ⟨g, i * 6 + 3, none⟩ (.slice (some ⟨w5.heap.size, 0, none⟩) 1 1)).heap.size ((w5.alloc (.cells #[.string ⟨c.name.toArray⟩] 9)).setCell ⟨g, i * 6 + 3, none⟩ (.slice (some ⟨w5.heap.size, 0, none⟩) 1 1)) wx → ProgX wx (.slice (some ⟨g, 0, none⟩) n tc) (cs.set i { c with ifaces := [c.name] })) := hide fun wx hb => by
          have h1 : Ow.OwnX ((w5.alloc (.cells #[.string ⟨c.name.toArray⟩] 9)).setCell ⟨g, i * 6 + 3, none⟩ (.slice (some ⟨w5.heap.size, 0, none⟩) 1 1)) w0.heap.size 33 6 (Ow.ClsO (w5.alloc (.cells #[.string ⟨c.name.toArray⟩] 9)) w0.heap.size) (.slice (some ⟨g, 0, none⟩) n tc) (cs.set i { c with ifaces := [c.name] }) := Ow.OwnX.put1 HO6.out Ow.shp_cls (j := 3) (u := .slice (some ⟨w5.heap.size, 0, none⟩) 1 1) (x' := { c with ifaces := [c.name] }) HIc.out (by decide) (by rintro y ⟨vp, vc, vk, rfl, x1, x2, x3, l1, l2, l3, l4⟩; exact ⟨_, vc, vk, rfl, HRw.out, x2, x3, l1, l2, (by show 1 ≤ maxLen; unfold maxLen; omega), l4⟩)
          have h2 : Ow.OwnX ((w5.alloc (.cells #[.string ⟨c.name.toArray⟩] 9)).setCell ⟨g, i * 6 + 3, none⟩ (.slice (some ⟨w5.heap.size, 0, none⟩) 1 1)) w0.heap.size 33 6 (Ow.ClsO ((w5.alloc (.cells #[.string ⟨c.name.toArray⟩] 9)).setCell ⟨g, i * 6 + 3, none⟩ (.slice (some ⟨w5.heap.size, 0, none⟩) 1 1)) w0.heap.size) (.slice (some ⟨g, 0, none⟩) n tc) (cs.set i { c with ifaces := [c.name] }) := h1.low (Nat.le_refl _) fun _ _ h => h.kx HK.out (by decide) (by decide) (by decide) (by decide) (by decide) (by decide)
          exact (Ow.ProgO.x (base := w0.heap.size) ⟨h2, by rw [List.length_set]; exact (HP.out w (Below.refl _ _)).2⟩).on hb
        have d0 := HC.out _ HF.out
        clear hG
        go_wp2_with fail
        generalize ((w5.alloc (.cells #[.string ⟨c.name.toArray⟩] 9)).setCell ⟨g, i * 6 + 3, none⟩ (.slice (some ⟨w5.heap.size, 0, none⟩) 1 1)) = wf at *

        refine (hCheck_any cs _ _ (HT.out _ (HW.out _ HF.out)) (HP.out _ (HW.out _ HF.out))).mono ?_
        rintro e y1 ⟨rfl, hy1⟩
        rw [HE.out]
        have HY1 := hide (HF.out.trans (hy1.mono HF.out.size))
        have HX1 := hide hy1
        have d1 := cell_box ((hy1.block _ (Ow.lt_of_blk HQf.out)).trans HQf.out) 0
        clear hy1
        go_wp2_with fail
        refine (hCheck_any (cs.set i { c with ifaces := [c.name] }) _ y1 (HT.out _ (HW.out _ HY1.out)) (HPq.out _ HX1.out)).mono ?_
        rintro e y2 ⟨rfl, hy2⟩
        rw [HEq.out]
        have HY2 := hide (HY1.out.trans (hy2.mono HY1.out.size))
        have HX2 := hide (HX1.out.trans (hy2.mono HX1.out.size))
        have d2 := cell_box ((HX2.out.block _ (Ow.lt_of_blk HQf.out)).trans HQf.out) 0
        clear hy2 d1
        go_wp2_with fail
        refine (Kinds_any (cs.set i { c with ifaces := [c.name] }) _ Hr.objN y2 (HT.out _ (HW.out _ HY2.out)) (HPq.out _ HX2.out)).mono ?_
        rintro e y3 ⟨vk, rfl, hok, hy3⟩
        rw [Hr.kinds_bad (by rw [HEq.out]; decide)] at hok
        obtain ⟨ka, kc, rfl⟩ := hok.shape
        have HY3 := hide (HY2.out.trans (hy3.mono HY2.out.size))
        have HX3 := hide (HX2.out.trans (hy3.mono HX2.out.size))
        have d3 := cell_box ((HX3.out.block _ (Ow.lt_of_blk HQf.out)).trans HQf.out) 0
        clear hy3 d2 hok
        simp only [List.length_nil]
        go_wp2_with fail
        refine (Under_any (cs.set i { c with ifaces := [c.name] }) _ Hr.errN Hr.objN y3 (HT.out _ (HW.out _ HY3.out)) (HPq.out _ HX3.out)).mono ?_
        rintro e y4 ⟨hy, hy4⟩
        obtain rfl := hy.f (fun h => by have := (Hr.underB_iff _ _ _).2 h; rw [Hr.under_bad (by rw [HEq.out]; decide)] at this; cases this)
        have HY4 := hide (HY3.out.trans (hy4.mono HY3.out.size))
        clear hy4 hy d3
        go_wp2_with fail
        refine (hwakes_any y4 (HT.out _ (HW.out _ HY4.out))).mono ?_
        rintro e y5 ⟨rfl, hy5⟩
        have HY5 := hide (HY4.out.trans (hy5.mono HY4.out.size))
        clear hy5
        go_wp2_with fail
        go_ret
        exact ⟨rfl, HW.out _ HY5.out⟩
      | false =>
        rw [hif] at r1
        have hG := HG5.out
        have f2 := Ow.fz_blk hG (i * 6 + 2)
        have HK : Hid (Ow.Kx 33 w5 (w5.setCell ⟨g, i * 6 + 2, none⟩ (.string ⟨c.name.toArray⟩))) := hide (Ow.Kx.set (t := 33) ⟨_, _, hG⟩ (i * 6 + 2) (.string ⟨c.name.toArray⟩))
        have HF : Hid (Below w0.heap.size w0 (w5.setCell ⟨g, i * 6 + 2, none⟩ (.string ⟨c.name.toArray⟩))) := hide (HB5.out.trans ((Below.refl _ _).setCell (p := ⟨g, i * 6 + 2, none⟩) HGb.out (.string ⟨c.name.toArray⟩)))
        have HQf : Hid ((w5.setCell ⟨g, i * 6 + 2, none⟩ (.string ⟨c.name.toArray⟩)).heap[w4.heap.size]? = some (.cells #[.slice (some ⟨g, 0, none⟩) n tc] 24 (0, 0))) := hide (HK.out.blk _ _ _ _ HQ5.out (by decide))
        have HEq := hide (Hr.bent3c HE.out HIc.out hif)
        have HPq : Hid (∀ wx, Below (w5.setCell ⟨g, i * 6 + 2, none⟩ (.string ⟨c.name.toArray⟩)).heap.size (w5.setCell ⟨g, i * 6 + 2, none⟩ (.string ⟨c.name.toArray⟩)) wx → ProgX wx (.slice (some ⟨g, 0, none⟩) n tc) (cs.set i { c with super := c.name })) := hide fun wx hb => by
          have h1 : Ow.OwnX (w5.setCell ⟨g, i * 6 + 2, none⟩ (.string ⟨c.name.toArray⟩)) w0.heap.size 33 6 (Ow.ClsO w5 w0.heap.size) (.slice (some ⟨g, 0, none⟩) n tc) (cs.set i { c with super := c.name }) := Ow.OwnX.put1 HO5.out Ow.shp_cls (j := 2) (u := .string ⟨c.name.toArray⟩) (x' := { c with super := c.name }) HIc.out (by decide) (by rintro y ⟨vp, vc, vk, rfl, x1, x2, x3, l1, l2, l3⟩; exact ⟨vp, vc, vk, rfl, x1, x2, x3, l1, l1, l3⟩)
          have h2 : Ow.OwnX (w5.setCell ⟨g, i * 6 + 2, none⟩ (.string ⟨c.name.toArray⟩)) w0.heap.size 33 6 (Ow.ClsO (w5.setCell ⟨g, i * 6 + 2, none⟩ (.string ⟨c.name.toArray⟩)) w0.heap.size) (.slice (some ⟨g, 0, none⟩) n tc) (cs.set i { c with super := c.name }) := h1.low (Nat.le_refl _) fun _ _ h => h.kx HK.out (by decide) (by decide) (by decide) (by decide) (by decide) (by decide)
          exact (Ow.ProgO.x (base := w0.heap.size) ⟨h2, by rw [List.length_set]; exact (HP.out w (Below.refl _ _)).2⟩).on hb
        have d0 := HC.out _ HF.out
        clear hG
        go_wp2_with fail
        generalize (w5.setCell ⟨g, i * 6 + 2, none⟩ (.string ⟨c.name.toArray⟩)) = wf at *

        refine (hCheck_any cs _ _ (HT.out _ (HW.out _ HF.out)) (HP.out _ (HW.out _ HF.out))).mono ?_
        rintro e y1 ⟨rfl, hy1⟩
        rw [HE.out]
        have HY1 := hide (HF.out.trans (hy1.mono HF.out.size))
        have HX1 := hide hy1
        have d1 := cell_box ((hy1.block _ (Ow.lt_of_blk HQf.out)).trans HQf.out) 0
        clear hy1
        go_wp2_with fail
        refine (hCheck_any (cs.set i { c with super := c.name }) _ y1 (HT.out _ (HW.out _ HY1.out)) (HPq.out _ HX1.out)).mono ?_
        rintro e y2 ⟨rfl, hy2⟩
        rw [HEq.out]
        have HY2 := hide (HY1.out.trans (hy2.mono HY1.out.size))
        have HX2 := hide (HX1.out.trans (hy2.mono HX1.out.size))
        have d2 := cell_box ((HX2.out.block _ (Ow.lt_of_blk HQf.out)).trans HQf.out) 0
        clear hy2 d1
        go_wp2_with fail
        refine (Kinds_any (cs.set i { c with super := c.name }) _ Hr.objN y2 (HT.out _ (HW.out _ HY2.out)) (HPq.out _ HX2.out)).mono ?_
        rintro e y3 ⟨vk, rfl, hok, hy3⟩
        rw [Hr.kinds_bad (by rw [HEq.out]; decide)] at hok
        obtain ⟨ka, kc, rfl⟩ := hok.shape
        have HY3 := hide (HY2.out.trans (hy3.mono HY2.out.size))
        have HX3 := hide (HX2.out.trans (hy3.mono HX2.out.size))
        have d3 := cell_box ((HX3.out.block _ (Ow.lt_of_blk HQf.out)).trans HQf.out) 0
        clear hy3 d2 hok
        simp only [List.length_nil]
        go_wp2_with fail
        refine (Under_any (cs.set i { c with super := c.name }) _ Hr.errN Hr.objN y3 (HT.out _ (HW.out _ HY3.out)) (HPq.out _ HX3.out)).mono ?_
        rintro e y4 ⟨hy, hy4⟩
        obtain rfl := hy.f (fun h => by have := (Hr.underB_iff _ _ _).2 h; rw [Hr.under_bad (by rw [HEq.out]; decide)] at this; cases this)
        have HY4 := hide (HY3.out.trans (hy4.mono HY3.out.size))
        clear hy4 hy d3
        go_wp2_with fail
        refine (hwakes_any y4 (HT.out _ (HW.out _ HY4.out))).mono ?_
        rintro e y5 ⟨rfl, hy5⟩
        have HY5 := hide (HY4.out.trans (hy5.mono HY4.out.size))
        clear hy5
        go_wp2_with fail
        go_ret
        exact ⟨rfl, HW.out _ HY5.out⟩
    · have hG := HG5.out
      have f2 := Ow.fz_blk hG (i * 6)
      have HK : Hid (Ow.Kx 33 w5 (w5.setCell ⟨g, i * 6, none⟩ (.string ⟨#[79, 98, 106, 101, 99, 116]⟩))) := hide (Ow.Kx.set (t := 33) ⟨_, _, hG⟩ (i * 6) (.string ⟨#[79, 98, 106, 101, 99, 116]⟩))
      have HF : Hid (Below w0.heap.size w0 (w5.setCell ⟨g, i * 6, none⟩ (.string ⟨#[79, 98, 106, 101, 99, 116]⟩))) := hide (HB5.out.trans ((Below.refl _ _).setCell (p := ⟨g, i * 6, none⟩) HGb.out (.string ⟨#[79, 98, 106, 101, 99, 116]⟩)))
      have HQf : Hid ((w5.setCell ⟨g, i * 6, none⟩ (.string ⟨#[79, 98, 106, 101, 99, 116]⟩)).heap[w4.heap.size]? = some (.cells #[.slice (some ⟨g, 0, none⟩) n tc] 24 (0, 0))) := hide (HK.out.blk _ _ _ _ HQ5.out (by decide))
      have HEq := hide (Hr.bent4 HE.out HIc.out)
      have HPq : Hid (∀ wx, Below (w5.setCell ⟨g, i * 6, none⟩ (.string ⟨#[79, 98, 106, 101, 99, 116]⟩)).heap.size (w5.setCell ⟨g, i * 6, none⟩ (.string ⟨#[79, 98, 106, 101, 99, 116]⟩)) wx → ProgX wx (.slice (some ⟨g, 0, none⟩) n tc) (cs.set i { c with name := Hr.objN })) := hide fun wx hb => by
        have h1 : Ow.OwnX (w5.setCell ⟨g, i * 6, none⟩ (.string ⟨#[79, 98, 106, 101, 99, 116]⟩)) w0.heap.size 33 6 (Ow.ClsO w5 w0.heap.size) (.slice (some ⟨g, 0, none⟩) n tc) (cs.set i { c with name := Hr.objN }) := Ow.OwnX.put1 HO5.out Ow.shp_cls (j := 0) (u := .string ⟨#[79, 98, 106, 101, 99, 116]⟩) (x' := { c with name := Hr.objN }) HIc.out (by decide) (by rintro y ⟨vp, vc, vk, rfl, x1, x2, x3, l1, l2, l3⟩; exact ⟨vp, vc, vk, rfl, x1, x2, x3, (by show Hr.objN.length ≤ maxLen; decide), l2, l3⟩)
        have h2 : Ow.OwnX (w5.setCell ⟨g, i * 6, none⟩ (.string ⟨#[79, 98, 106, 101, 99, 116]⟩)) w0.heap.size 33 6 (Ow.ClsO (w5.setCell ⟨g, i * 6, none⟩ (.string ⟨#[79, 98, 106, 101, 99, 116]⟩)) w0.heap.size) (.slice (some ⟨g, 0, none⟩) n tc) (cs.set i { c with name := Hr.objN }) := h1.low (Nat.le_refl _) fun _ _ h => h.kx HK.out (by decide) (by decide) (by decide) (by decide) (by decide) (by decide)
        exact (Ow.ProgO.x (base := w0.heap.size) ⟨h2, by rw [List.length_set]; exact (HP.out w (Below.refl _ _)).2⟩).on hb
      have d0 := HC.out _ HF.out
      clear hG
      go_wp2_with fail
      generalize (w5.setCell ⟨g, i * 6, none⟩ (.string ⟨#[79, 98, 106, 101, 99, 116]⟩)) = wf at *

      refine (hCheck_any cs _ _ (HT.out _ (HW.out _ HF.out)) (HP.out _ (HW.out _ HF.out))).mono ?_
      rintro e y1 ⟨rfl, hy1⟩
      rw [HE.out]
      have HY1 := hide (HF.out.trans (hy1.mono HF.out.size))
      have HX1 := hide hy1
      have d1 := cell_box ((hy1.block _ (Ow.lt_of_blk HQf.out)).trans HQf.out) 0
      clear hy1
      go_wp2_with fail
      refine (hCheck_any (cs.set i { c with name := Hr.objN }) _ y1 (HT.out _ (HW.out _ HY1.out)) (HPq.out _ HX1.out)).mono ?_
      rintro e y2 ⟨rfl, hy2⟩
      rw [HEq.out]
      have HY2 := hide (HY1.out.trans (hy2.mono HY1.out.size))
      have HX2 := hide (HX1.out.trans (hy2.mono HX1.out.size))
      have d2 := cell_box ((HX2.out.block _ (Ow.lt_of_blk HQf.out)).trans HQf.out) 0
      clear hy2 d1
      go_wp2_with fail
      refine (Kinds_any (cs.set i { c with name := Hr.objN }) _ Hr.objN y2 (HT.out _ (HW.out _ HY2.out)) (HPq.out _ HX2.out)).mono ?_
      rintro e y3 ⟨vk, rfl, hok, hy3⟩
      rw [Hr.kinds_bad (by rw [HEq.out]; decide)] at hok
      obtain ⟨ka, kc, rfl⟩ := hok.shape
      have HY3 := hide (HY2.out.trans (hy3.mono HY2.out.size))
      have HX3 := hide (HX2.out.trans (hy3.mono HX2.out.size))
      have d3 := cell_box ((HX3.out.block _ (Ow.lt_of_blk HQf.out)).trans HQf.out) 0
      clear hy3 d2 hok
      simp only [List.length_nil]
      go_wp2_with fail
      refine (Under_any (cs.set i { c with name := Hr.objN }) _ Hr.errN Hr.objN y3 (HT.out _ (HW.out _ HY3.out)) (HPq.out _ HX3.out)).mono ?_
      rintro e y4 ⟨hy, hy4⟩
      obtain rfl := hy.f (fun h => by have := (Hr.underB_iff _ _ _).2 h; rw [Hr.under_bad (by rw [HEq.out]; decide)] at this; cases this)
      have HY4 := hide (HY3.out.trans (hy4.mono HY3.out.size))
      clear hy4 hy d3
      go_wp2_with fail
      refine (hwakes_any y4 (HT.out _ (HW.out _ HY4.out))).mono ?_
      rintro e y5 ⟨rfl, hy5⟩
      have HY5 := hide (HY4.out.trans (hy5.mono HY4.out.size))
      clear hy5
      go_wp2_with fail
      go_ret
      exact ⟨rfl, HW.out _ HY5.out⟩
end Go.Proofs.YtildjihgklgibaaDoor

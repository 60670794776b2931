/- What the page's Under, Kinds answer of a sound order. -/
import Derived.Test.YtildjihgklgibaaDoorRefHD
import Derived.Test.YtildjihgklgibaaDoorHierM
namespace Go.Proofs.YtildjihgklgibaaDoor
open Go.RowKit
set_option linter.unusedVariables false
set_option linter.unusedSimpArgs false
namespace Hr
theorem NFar.head {l : List Pp.XCls} {x y z : Pp.Bs} (s : NStep l x y) (h : NFar l y z) : NFar l x z :=
  NFar.ind (C := fun z => NFar l x z) (.more (.refl x) s) (fun _ s' ih => .more ih s') h
/-- Who is under whom, by names. -/
theorem under_reach {cs : List Pp.XCls} (he : errL cs = 0) {a b : Pp.Bs} {i j : Nat} (ha : placeL (allL cs) a = some i) (hb : placeL (allL cs) b = some j) : underB cs a b = true ↔ (b = objN ∨ NFar (allL cs) a b) := by
  obtain ⟨_, ho, up, hg, hr⟩ := err_zero he
  rw [underB_iff]
  constructor
  · rintro ⟨up', i', j', _, hg', ha', hb', h⟩
    rw [hg] at hg'; cases hg'
    rw [ha] at ha'; cases ha'
    rw [hb] at hb'; cases hb'
    obtain ⟨c, hc, hcn, _⟩ := placeL_lt ha
    obtain ⟨d, hd, hdn, _⟩ := placeL_lt hb
    rcases h with rfl | rfl | h
    · rw [hc] at hd; cases hd
      rw [← hcn, hdn]
      exact .inr (.refl _)
    · left
      rw [show (allL cs)[0]? = some (plain objN []) from rfl] at hd
      cases hd; exact hdn.symm
    · right
      obtain ⟨d', hd', y, hy, hn⟩ := names_of_far ho hg h hc
      rw [hd] at hd'; cases hd'
      rw [hdn] at hn
      refine NFar.head ⟨i, c, ha, hc, hy⟩ hn
  · rintro (rfl | h)
    · rw [show placeL (allL cs) objN = some 0 from rfl] at hb; cases hb
      exact ⟨up, i, 0, he, hg, ha, rfl, .inr (.inl rfl)⟩
    · obtain ⟨k, hk, h⟩ := far_of_names hg ha h
      rw [hb] at hk; cases hk
      refine ⟨up, i, j, he, hg, ha, hb, ?_⟩
      rcases h with rfl | h
      · rw [ha] at hb; cases hb; exact .inl rfl
      · exact .inr (.inr h)
theorem under_none {cs : List Pp.XCls} {a b : Pp.Bs} (h : placeL (allL cs) a = none ∨ placeL (allL cs) b = none) : underB cs a b = false := by
  rw [← Bool.not_eq_true, underB_iff]
  rintro ⟨_, _, _, _, _, ha, hb, _⟩
  rcases h with h | h
  · rw [h] at ha; cases ha
  · rw [h] at hb; cases hb
end Hr

set_option maxRecDepth 100000 in
set_option maxHeartbeats 8000000 in
theorem RUnder_any (cs : List Pp.XCls) (v : Value) (a b : Pp.Bs) (w : World) (h : ProgX w v cs) (hl : Pp.Light cs) (he : Hr.errL cs = 0) (hif : ∀ c ∈ Hr.allL cs, c.ifaces.length ≤ 1000) (hm22 : (Hr.allL cs).length ≤ 22) (han : a.length ≤ maxLen) :
    Calls Tryd.prog 27 #[.agg #[v], .string ⟨a.toArray⟩, .string ⟨b.toArray⟩] w fun e w' => e = .returned (.bool (Hr.underB cs a b)) ∧ Below w.heap.size w w' := by
  have HAl := hide (fun wx (hb : Below w.heap.size w wx) => RAll_any cs v wx (h.on hb) hl)
  have HE := hide he
  have HIf := hide hif
  have HAn := hide han
  obtain ⟨pa, pc, rfl, _⟩ := h.1.len
  generalize cs.length = n at *
  obtain ⟨ub, hub⟩ : ∃ q, q = Hr.underB cs a b := ⟨_, rfl⟩
  have HUB := hide hub
  rw [← hub]
  clear h hl he hif han hub
  have HX := hide (heap_alloc_new w (.cells #[.slice pa n pc] 24))
  have HB0 := hide ((Below.refl w.heap.size w).alloc (Nat.le_refl _) (.cells #[.slice pa n pc] 24))
  go_enter Tryd.func27, Tryd.ntmps27
  go_wp2_with fail
  generalize w.alloc (.cells #[.slice pa n pc] 24) = w0 at *
  refine (HAl.out w0 HB0.out).mono ?_
  rintro e w1 ⟨vl, rfl, hol, hb1⟩
  have HW := hide (HB0.out.trans (hb1.mono HB0.out.size))
  have HRow : Hid (∀ wy, Below w1.heap.size w1 wy → RowX wy 6 (ClsX wy) vl (Hr.allL cs)) := hide fun wy hb => (hol.row Ow.shp_cls fun _ _ h => h.x).on hb fun _ _ h => h.on hb
  obtain ⟨la, lc, rfl⟩ := hol.shape
  have HA := hide (fun wy (hb : Below w1.heap.size w1 wy) (s : Pp.Bs) => RAt_any (Hr.allL cs) _ s wy (HRow.out wy hb) (by unfold maxLen; omega))
  have HRc := hide (fun wy (hb : Below w1.heap.size w1 wy) => reach_any (Hr.allL cs) _ a wy (HRow.out wy hb) (by omega) HIf.out HAn.out)
  obtain ⟨m, hm⟩ : ∃ q, q = (Hr.allL cs).length := ⟨_, rfl⟩
  have HM := hide hm
  rw [← hm] at HA HRc ⊢
  clear hb1 hol hm HAl HB0 HX
  go_wp2_with fail
  refine (HA.out w1 (Below.refl _ _) a).mono ?_
  rintro e w2 ⟨rfl, hb2⟩
  have HB2 := hide hb2
  clear hb2
  cases hpa : Hr.placeL (Hr.allL cs) a with
  | none =>
    have HU := HUB.out.trans (Hr.under_none (b := b) (.inl hpa))
    subst HU
    simp only [Hr.placeI]
    clear hpa
    go_wp2_with fail
    go_ret
    exact ⟨rfl, HW.out.trans (HB2.out.mono HW.out.size)⟩
  | some i =>
  have HPA := hide hpa
  simp only [Hr.placeI]
  clear hpa
  go_wp2_with fail
  refine (HA.out w2 HB2.out b).mono ?_
  rintro e w3 ⟨rfl, hb3⟩
  have HB3 := hide (HB2.out.trans (hb3.mono HB2.out.size))
  clear hb3
  cases hpb : Hr.placeL (Hr.allL cs) b with
  | none =>
    have HU := HUB.out.trans (Hr.under_none (a := a) (.inr hpb))
    subst HU
    simp only [Hr.placeI]
    clear hpb
    go_wp2_with fail
    go_ret
    exact ⟨rfl, HW.out.trans (HB3.out.mono HW.out.size)⟩
  | some j =>
  have HPB := hide hpb
  simp only [Hr.placeI]
  have HUn := hide (Hr.under_reach HE.out HPA.out hpb)
  rw [← HUB.out] at HUn
  clear hpb
  by_cases hbo : b = Hr.objN
  · have hu : ub = true := HUn.out.2 (.inl hbo)
    subst hu
    subst hbo
    simp only [Hr.objN, List.toArray]
    go_wp2_with fail
    go_ret
    exact ⟨rfl, HW.out.trans (HB3.out.mono HW.out.size)⟩
  · have hne : (b == Hr.objN) = false := by simp [hbo]
    simp only [Hr.objN] at hne
    have HUn2 : Hid (ub = true ↔ Hr.NFar (Hr.allL cs) a b) := hide (by rw [HUn.out]; simp [hbo])
    clear HUn hbo
    go_wp2_with fail
    refine (HRc.out w3 HB3.out).mono ?_
    rintro e w4 ⟨v4, out, rfl, ho4, hri, hb4⟩
    have HB4 := hide (HB3.out.trans (hb4.mono HB3.out.size))
    obtain ⟨a4, c4, rfl⟩ := ho4.shape
    have HHs := hide (has_any out (.slice a4 out.length c4) b w4 (ho4.row Ow.shp_str fun _ _ h => h) (by
      have h1 := hri.few
      have h2 := Hr.most_le HIf.out
      have h3 := HM.out
      unfold Hr.mostL at h1
      unfold maxLen
      omega))
    have HBB : Hid (decide (b ∈ out) = ub) := hide (by rw [Bool.eq_iff_iff, decide_eq_true_eq, HUn2.out]; exact hri.stop b)
    rw [HBB.out] at HHs
    clear hb4 ho4 hri HBB
    go_wp2_with fail
    refine HHs.out.mono ?_
    rintro e w5 ⟨rfl, hb5⟩
    have HB5 := hide (HB4.out.trans (hb5.mono HB4.out.size))
    clear hb5
    go_wp2_with fail
    go_ret
    exact ⟨rfl, HW.out.trans (HB5.out.mono HW.out.size)⟩
end Go.Proofs.YtildjihgklgibaaDoor

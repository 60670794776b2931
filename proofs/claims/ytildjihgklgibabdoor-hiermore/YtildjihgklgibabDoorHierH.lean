/- What Super, Under answer. -/
import Derived.Test.YtildjihgklgibabDoorHierG
namespace Go.Proofs.YtildjihgklgibabDoor
open Go.RowKit
set_option linter.unusedVariables false
set_option linter.unusedSimpArgs false

set_option maxRecDepth 100000 in
set_option maxHeartbeats 400000 in
theorem Super_any (cs : List Pp.XCls) (v : Value) (nm : Pp.Bs) (w : World) (ht : TabS w) (h : ProgX w v cs) :
    Calls Tryd.prog 26 #[.agg #[v], .string ⟨nm.toArray⟩] w fun e w' => e = .returned (.tuple #[.string ⟨(Hr.pairS (Hr.superQ cs nm)).1.toArray⟩, .bool (Hr.pairS (Hr.superQ cs nm)).2]) ∧ Below w.heap.size w w' := by
  have HG := hide (fun wx (hb : Below w.heap.size w wx) => look_any cs v nm w wx (ht.below hb) hb h)
  obtain ⟨pa, pc, rfl, _⟩ := h.1.len
  clear h ht
  generalize cs.length = n at *
  have HB0 := hide ((Below.refl w.heap.size w).alloc (Nat.le_refl _) (.cells #[.slice pa n pc] 24))
  cases hl : Hr.lookL cs nm with
  | none =>
    have HQ : Hid (Hr.superQ cs nm = none) := hide (by unfold Hr.superQ; rw [hl])
    rw [hl] at HG
    simp only [Hr.pairP] at HG
    rw [HQ.out]
    clear hl HQ
    generalize (⟨nm.toArray⟩ : ByteArray) = nb at *
    go_enter Tryd.func26, Tryd.ntmps26
    go_wp2_with fail
    refine (HG.out _ HB0.out).mono ?_
    rintro e w1 ⟨⟨a1, n1, c1, a2, n2, c2, rfl, _⟩, hb1⟩
    have HB1 := hide (HB0.out.trans (hb1.mono HB0.out.size))
    clear hb1 HG HB0
    go_wp2_with fail
    go_ret2
    exact ⟨rfl, HB1.out.alloc HB1.out.size _⟩
  | some k =>
    obtain ⟨he, hp⟩ := Hr.lookL_some hl
    obtain ⟨c, hc, -⟩ := Hr.placeL_lt hp
    have HQ : Hid (Hr.superQ cs nm = Hr.superL c) := hide (by unfold Hr.superQ; rw [hl]; simp only [hc])
    have HE := hide he
    have HCc := hide hc
    rw [hl] at HG
    simp only [Hr.pairP] at HG
    rw [HQ.out]
    clear hl HQ he hp hc
    generalize (⟨nm.toArray⟩ : ByteArray) = nb at *
    go_enter Tryd.func26, Tryd.ntmps26
    go_wp2_with fail
    refine (HG.out _ HB0.out).mono ?_
    rintro e w1 ⟨⟨a1, n1, c1, a2, n2, c2, rfl, htr⟩, hb1⟩
    obtain ⟨up, htr⟩ := htr HE.out
    have HB1 := hide (HB0.out.trans (hb1.mono HB0.out.size))
    have HTx := hide (htr.x HB1.out)
    obtain ⟨m, hm⟩ : ∃ m, m = n1 ∧ n1 = (Hr.allL cs).length := by
      obtain ⟨_, _, hsh⟩ := htr.all.shape
      injection hsh with _ hsh2 _
      exact ⟨n1, rfl, hsh2⟩
    have hkm : k < n1 := by rw [hm.2]; exact (List.getElem?_eq_some_iff.1 HCc.out).1
    have hm1 : n1 ≤ 1000 := by rw [hm.2]; exact htr.top
    clear hm htr
    obtain ⟨g1, o1, eg1, ys1, w1', hc1⟩ := Hr.row_at HTx.out.all HCc.out
    subst eg1
    have HAl := hide ((Below.refl w1.heap.size w1).alloc (Nat.le_refl _) (.cells #[.slice (some ⟨g1, o1, none⟩) n1 c1, .slice a2 n2 c2] 63))
    have HS := hide (fun wx (hb : Below w1.heap.size w1 wx) => superOf_any c ys1 wx (w1'.on hb))
    have HCx := hide (hc1 _ HAl.out)
    obtain ⟨va1, vd1, va2, vd2, va3, vd3, rfl⟩ := Hr.at_c w1'
    have r0 := HCx.out 0 _ rfl
    have r1 := HCx.out 1 _ rfl
    have r2 := HCx.out 2 _ rfl
    have r3 := HCx.out 3 _ rfl
    have r4 := HCx.out 4 _ rfl
    have r5 := HCx.out 5 _ rfl
    rw [Nat.add_zero] at r0
    have hkm' : (k : Int) < (n1 : Int) := by omega
    have hm1' : (n1 : Int) ≤ 1000 := by omega
    clear hb1 HG HB0 hc1 w1' HCx HTx
    go_wp2_with fail
    refine (HS.out _ HAl.out).mono ?_
    rintro e w5 ⟨rfl, hb5⟩
    have HB5 := hide (HB1.out.trans ((HAl.out.trans (hb5.mono HAl.out.size)).mono HB1.out.size))
    clear hb5 r0 r1 r2 r3 r4 r5 HS
    go_wp2_with fail
    go_ret2
    exact ⟨rfl, HB5.out⟩

set_option maxRecDepth 100000 in
set_option maxHeartbeats 400000 in
theorem Under_any (cs : List Pp.XCls) (v : Value) (a b : Pp.Bs) (w : World) (ht : TabS w) (h : ProgX w v cs) :
    Calls Tryd.prog 11 #[.agg #[v], .string ⟨a.toArray⟩, .string ⟨b.toArray⟩] w fun e w' => Hr.Yes (Hr.underQ cs a b) e ∧ Below w.heap.size w w' := by
  have HG := hide (fun wx (hb : Below w.heap.size w wx) => look_any cs v a w wx (ht.below hb) hb h)
  obtain ⟨pa, pc, rfl, _⟩ := h.1.len
  clear h ht
  generalize cs.length = n at *
  have HB0 := hide ((Below.refl w.heap.size w).alloc (Nat.le_refl _) (.cells #[.slice pa n pc] 24))
  cases hl : Hr.lookL cs a with
  | none =>
    have HQ : Hid (¬ Hr.underQ cs a b) := hide (by
      rintro ⟨up, i, j, he, _, hp, _⟩
      rw [Hr.lookL_yes he, hp] at hl
      cases hl)
    rw [hl] at HG
    simp only [Hr.pairP] at HG
    clear hl
    generalize (⟨a.toArray⟩ : ByteArray) = nb at *
    go_enter Tryd.func11, Tryd.ntmps11
    go_wp2_with fail
    refine (HG.out _ HB0.out).mono ?_
    rintro e w1 ⟨⟨a1, n1, c1, a2, n2, c2, rfl, _⟩, hb1⟩
    have HB1 := hide (HB0.out.trans (hb1.mono HB0.out.size))
    clear hb1 HG HB0
    go_wp2_with fail
    go_ret
    exact ⟨.no HQ.out, HB1.out.alloc HB1.out.size _⟩
  | some k =>
    obtain ⟨he, hp⟩ := Hr.lookL_some hl
    obtain ⟨c, hc, -⟩ := Hr.placeL_lt hp
    have HE := hide he
    have HPA := hide hp
    have HCc := hide hc
    rw [hl] at HG
    simp only [Hr.pairP] at HG
    clear hl he hp hc
    generalize (⟨a.toArray⟩ : ByteArray) = nb at *
    go_enter Tryd.func11, Tryd.ntmps11
    go_wp2_with fail
    refine (HG.out _ HB0.out).mono ?_
    rintro e w1 ⟨⟨a1, n1, c1, a2, n2, c2, rfl, htr⟩, hb1⟩
    obtain ⟨up, htr⟩ := htr HE.out
    have HB1 := hide (HB0.out.trans (hb1.mono HB0.out.size))
    have HTx := hide (htr.x HB1.out)
    obtain ⟨m, hm⟩ : ∃ m, m = n1 ∧ n1 = (Hr.allL cs).length := by
      obtain ⟨_, _, hsh⟩ := htr.all.shape
      injection hsh with _ hsh2 _
      exact ⟨n1, rfl, hsh2⟩
    have hkm : k < n1 := by rw [hm.2]; exact (List.getElem?_eq_some_iff.1 HCc.out).1
    have HNL := hide hm.2
    have HAl := hide ((Below.refl w1.heap.size w1).alloc (Nat.le_refl _) (.cells #[.slice a1 n1 c1, .slice a2 n2 c2] 63))
    have HPl := hide (fun wx (hb : Below w1.heap.size w1 wx) => place_any (Hr.allL cs) (.slice a1 n1 c1) b wx (HTx.out.all.on hb fun _ _ h => h.on hb) (by have := htr.top; unfold maxLen; omega))
    have HUn := hide (fun wx (hb : Below w1.heap.size w1 wx) (hi : Nat) (h2 : hi < n1) => under_any n1 a1 c1 up (.slice a2 n2 c2) k hi wx ((by have := HTx.out.ups.on hb; rw [← HNL.out] at this; exact this)) hkm h2)
    clear hm htr hb1 HG HB0
    cases hpb : Hr.placeL (Hr.allL cs) b with
    | none =>
      have HQ : Hid (¬ Hr.underQ cs a b) := hide (by
        rintro ⟨up, i, j, he, _, _, hp, _⟩
        rw [hpb] at hp
        cases hp)
      rw [hpb] at HPl
      simp only [Hr.pairP] at HPl
      clear hpb
      generalize (⟨b.toArray⟩ : ByteArray) = bb at *
      go_wp2_with fail
      refine (HPl.out _ HAl.out).mono ?_
      rintro e w5 ⟨rfl, hb5⟩
      have HB5 := hide (HB1.out.trans ((HAl.out.trans (hb5.mono HAl.out.size)).mono HB1.out.size))
      clear hb5 HPl HUn
      go_wp2_with fail
      go_ret
      exact ⟨.no HQ.out, HB5.out⟩
    | some j =>
      have hj : j < n1 := by
        obtain ⟨d, hd, -⟩ := Hr.placeL_lt hpb
        rw [HNL.out]; exact (List.getElem?_eq_some_iff.1 hd).1
      have HQ : Hid (Hr.underQ cs a b ↔ (k = j ∨ j = 0 ∨ Hr.Far up k j)) := hide (by
        constructor
        · rintro ⟨up', i', j', _, hg, h1, h2, h3⟩
          rw [HPA.out] at h1; cases h1
          rw [hpb] at h2; cases h2
          rw [HTx.out.grw] at hg; cases hg
          exact h3
        · intro h3
          exact ⟨up, k, j, HE.out, HTx.out.grw, HPA.out, hpb, h3⟩)
      rw [hpb] at HPl
      simp only [Hr.pairP] at HPl
      clear hpb
      generalize (⟨b.toArray⟩ : ByteArray) = bb at *
      go_wp2_with fail
      refine (HPl.out _ HAl.out).mono ?_
      rintro e w5 ⟨rfl, hb5⟩
      have HA5 := hide (HAl.out.trans (hb5.mono HAl.out.size))
      have HB5 := hide (HB1.out.trans (HA5.out.mono HB1.out.size))
      have HX5 := hide ((hb5.block w1.heap.size (by simp)).trans (heap_alloc_new w1 (.cells #[.slice a1 n1 c1, .slice a2 n2 c2] 63)))
      have s0 := cell_box HX5.out 0
      have s1 := cell_box HX5.out 1
      clear hb5 HPl
      go_wp2_with fail
      refine (HUn.out _ HA5.out j hj).mono ?_
      rintro e w6 ⟨⟨y, rfl, hy⟩, hb6⟩
      have HY := hide hy
      have HB6 := hide (HB5.out.trans (hb6.mono HB5.out.size))
      clear hy hb6 s0 s1
      go_wp2_with fail
      go_ret
      exact ⟨⟨_, rfl, by first | rw [HY.out, HQ.out] | (simp only [Bool.true_and]; rw [HY.out, HQ.out])⟩, HB6.out⟩
end Go.Proofs.YtildjihgklgibabDoor

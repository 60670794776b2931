/- HierOrder: the walk. -/
import Derived.Test.YtildjihgklgibaaDoorRefHE
import Derived.Test.YtildjihgklgibaaDoorRefHF
import Derived.Test.YtildjihgklgibaaDoorHierS
import Derived.Test.YtildjihgklgibaaDoorHeavyX
import Derived.Deep.RegionHeld3
namespace Go.Proofs.YtildjihgklgibaaDoor
open Go.RowKit
set_option linter.unusedVariables false
set_option linter.unusedSimpArgs false

theorem mod_lenHierOrder (n : Int) (c : Nat) (hc : 0 < c) (hc2 : c ≤ 100000) : ∃ m : Nat, m < c ∧ wrap64 ((IntKind.u64.wrap n).tmod (c : Int)) = (m : Int) := by
  have h0 : 0 ≤ IntKind.u64.wrap n := by
    rw [IntKind.wrap_u64]; omega
  generalize IntKind.u64.wrap n = u at h0
  have h1 : 0 ≤ u.tmod (c : Int) := Int.tmod_nonneg _ h0
  have h2 : u.tmod (c : Int) < (c : Int) := Int.tmod_lt_of_pos _ (by omega)
  generalize u.tmod (c : Int) = r at h1 h2
  refine ⟨r.toNat, by omega, ?_⟩
  unfold wrap64; omega

set_option maxRecDepth 100000 in
set_option maxHeartbeats 16000000 in
theorem hierOrder_walk (v : Value) (cs : List Pp.XCls) (a : Int) (b : Int) (c : Int) (w : World) (ht : TabS w) (h : ProgX w v cs) :
    Calls Tryd.prog 4 #[.agg #[v], .int .i64 a, .int .i64 b, .int .i64 c] w fun e w' => e = .returned (.bool true) ∧ Below w.heap.size w w' := by
  have HP := hide (fun wx (hb : Below w.heap.size w wx) => h.on hb)
  have HT := hide (fun wx (hb : Below w.heap.size w wx) => ht.below hb)
  obtain ⟨pa, pc, rfl, _⟩ := h.1.len
  obtain ⟨n, hn'⟩ : ∃ n, n = cs.length := ⟨_, rfl⟩
  have HN := hide hn'
  rw [← hn'] at HP ⊢
  clear h ht hn'
  have hx0 := hide (heap_alloc_new w (.cells #[.slice pa n pc] 24))
  have HB0 := hide ((Below.refl w.heap.size w).alloc (Nat.le_refl _) (.cells #[.slice pa n pc] 24))
  go_enter Tryd.func4, Tryd.ntmps4
  go_wp2_with fail
  generalize w.alloc (.cells #[.slice pa n pc] 24) = w0 at *
  have HC : Hid (∀ wx, Below w0.heap.size w0 wx → wx.cell? ⟨w.heap.size, 0, none⟩ = some (.slice pa n pc)) := hide fun wx hb => cell_box ((hb.block _ (Ow.lt_of_blk hx0.out)).trans hx0.out) 0
  have HW : Hid (∀ wx, Below w0.heap.size w0 wx → Below w.heap.size w wx) := hide fun wx hb => HB0.out.trans (hb.mono HB0.out.size)
  clear hx0
  refine (Heavy_any cs _ w0 (HP.out w0 HB0.out)).mono ?_
  rintro e w1 ⟨⟨b, rfl, hlb⟩, hb1⟩
  have HB1 := hide hb1
  clear hb1
  cases b with
  | true =>
    go_wp2_with fail
    go_ret
    exact ⟨rfl, HW.out _ HB1.out⟩
  | false =>
    have HLt := hide (hlb rfl)
    have c1 := HC.out w1 HB1.out
    clear hlb
    go_wp2_with fail
    refine (RHier_any cs _ w1 (HP.out _ (HW.out _ HB1.out)) HLt.out).mono ?_
    rintro e w2 ⟨rfl, hb2⟩
    have HB2 := hide (HB1.out.trans (hb2.mono HB1.out.size))
    have c2 := HC.out w2 HB2.out
    clear hb2 c1
    by_cases he : Hr.errL cs ≠ 0
    · generalize Hr.errL cs = er at *
      have he' : (er != 0) = true := by simpa using he
      go_wp2_with fail
      go_ret
      exact ⟨rfl, HW.out _ HB2.out⟩
    have HE := hide (show Hr.errL cs = 0 by simpa using he)
    rw [HE.out]
    clear he
    go_wp2_with fail
    refine (names_any cs _ w2 (HP.out _ (HW.out _ HB2.out)) HLt.out).mono ?_
    rintro e w3 ⟨vn, rfl, hon, hb3⟩
    have HB3 := hide (HB2.out.trans (hb3.mono HB2.out.size))
    have HNm := hide (hon.row Ow.shp_str fun _ _ h => h)
    obtain ⟨na, nc, rfl⟩ := hon.shape
    have hnl : (Hr.namesL (Hr.allL cs)).length = 8 + n := by unfold Hr.namesL; rw [List.length_map, Hr.all_len, HN.out]; rfl
    have hn14 : n ≤ 14 := by rw [HN.out]; exact HLt.out.1
    rw [hnl] at HNm ⊢
    obtain ⟨m, hm⟩ : ∃ m, m = 8 + n := ⟨_, rfl⟩
    rw [← hm] at HNm ⊢
    have HM : Hid (m = (Hr.allL cs).length) := hide (by rw [hm, ← hnl]; unfold Hr.namesL; rw [List.length_map])
    have hm1 : 8 ≤ m ∧ m ≤ 22 := by omega
    obtain ⟨hm2, hm3⟩ := hm1
    have HAt : Hid (∀ q : Nat, q < m → ∃ (x : Pp.XCls) (g o : Nat), (Hr.allL cs)[q]? = some x ∧ na = some ⟨g, o, none⟩ ∧ ∀ wx, Below w3.heap.size w3 wx → wx.cell? ⟨g, o + q, none⟩ = some (.string ⟨x.name.toArray⟩)) := hide (by
      intro q hq
      have hx : (Hr.allL cs)[q]? = some ((Hr.allL cs)[q]'(by rw [← HM.out]; exact hq)) := List.getElem?_eq_getElem _
      obtain ⟨g, o, e1, ys, hys, hc⟩ := Hr.row_at HNm.out (k := q) (x := ((Hr.allL cs)[q]'(by rw [← HM.out]; exact hq)).name) (by unfold Hr.namesL; rw [List.getElem?_map, hx]; rfl)
      refine ⟨_, g, o, hx, e1, fun wx hb => ?_⟩
      obtain rfl : ys = _ := hys.1
      have := hc wx hb 0 _ rfl
      simpa using this)
    clear hb3 hon hnl hm c2
    obtain ⟨qa, hqa, HQa⟩ := mod_lenHierOrder a m (by omega) (by omega)
    obtain ⟨qb, hqb, HQb⟩ := mod_lenHierOrder b m (by omega) (by omega)
    obtain ⟨qc, hqc, HQc⟩ := mod_lenHierOrder c m (by omega) (by omega)
    obtain ⟨x, g, o, hx, rfl, hxc⟩ := HAt.out qa hqa
    obtain ⟨y, g', o', hy, e1, hyc⟩ := HAt.out qb hqb
    cases e1
    obtain ⟨z, g', o', hz, e1, hzc⟩ := HAt.out qc hqc
    cases e1
    have HXc := hide hxc
    have HYc := hide hyc
    have HZc := hide hzc
    have HXx := hide hx
    have HYy := hide hy
    have HZz := hide hz
    have hD : Hid (Below w3.heap.size w3 w3.drew) := hide (Below.drew (Below.refl _ _))
    have hqa' : (qa : Int) < (m : Int) := by omega
    have hqb' : (qb : Int) < (m : Int) := by omega
    have hqc' : (qc : Int) < (m : Int) := by omega
    have hmi : (m : Int) ≤ 22 := by omega
    have hm0 : ¬ m = 0 := by omega
    have HQa' : IntKind.i64.wrap ((IntKind.u64.wrap a).tmod (m : Int)) = (qa : Int) := by rw [IntWalk.i64_left]; exact HQa
    have HQb' : IntKind.i64.wrap ((IntKind.u64.wrap b).tmod (m : Int)) = (qb : Int) := by rw [IntWalk.i64_left]; exact HQb
    have HQc' : IntKind.i64.wrap ((IntKind.u64.wrap c).tmod (m : Int)) = (qc : Int) := by rw [IntWalk.i64_left]; exact HQc
    have hwm : IntKind.u64.wrap (m : Int) = (m : Int) := by rw [IntKind.wrap_u64]; omega
    clear hx hy hz hxc hyc hzc HAt
    go_wp2_with fail
    go_region_held3 (fun wz => wz.cell? ⟨g, o + qa, none⟩ = some (.string ⟨x.name.toArray⟩) ∧ wz.cell? ⟨g, o + qb, none⟩ = some (.string ⟨y.name.toArray⟩) ∧ wz.cell? ⟨g, o + qc, none⟩ = some (.string ⟨z.name.toArray⟩)) (exact ⟨HXc.out _ hD.out, HYc.out _ hD.out, HZc.out _ hD.out⟩) (fail)
    all_goals
      have HBd := hide (HB3.out.trans (hD.out.mono HB3.out.size))
      clear HQa HQb HQc HQa' HQb' HQc' hqa' hqb' hqc' hm0 hwm HXc HYc HZc hD HNm
      generalize w3.drew = w4 at *
      have HUn : Hid (∀ (s t : Pp.Bs) (wx : World), Below w0.heap.size w0 wx → Calls Tryd.prog 14 #[.agg #[.slice pa n pc], .string ⟨s.toArray⟩, .string ⟨t.toArray⟩] wx fun e w' => e = .returned (.bool (Hr.underB cs s t)) ∧ Below wx.heap.size wx w') := hide fun s t wx hb => by
        refine (Under_any cs _ s t wx (HT.out _ (HW.out _ hb)) (HP.out _ (HW.out _ hb))).mono ?_
        rintro e w' ⟨⟨y, rfl, hy⟩, hb'⟩
        have : y = Hr.underB cs s t := by
          cases y with
          | true => exact ((Hr.underB_iff _ _ _).2 (hy.1 rfl)).symm
          | false =>
            cases hu : Hr.underB cs s t with
            | false => rfl
            | true => exact hy.2 ((Hr.underB_iff _ _ _).1 hu)
        rw [this]
        exact ⟨rfl, hb'⟩
      have HWk := hide (fun wx (hb : Below w0.heap.size w0 wx) => hwakes_any wx (HT.out _ (HW.out _ hb)))
      have U1 := hide (HUn.out x.name x.name)
      have U2 := hide (HUn.out x.name Hr.objN)
      have U3 := hide (HUn.out x.name y.name)
      have U4 := hide (HUn.out y.name z.name)
      have U5 := hide (HUn.out x.name z.name)
      have U6 := hide (HUn.out y.name x.name)
      rw [(Hr.underB_iff _ _ _).2 (Hr.under_self HE.out HXx.out)] at U1
      rw [(Hr.underB_iff _ _ _).2 (Hr.under_top HE.out HXx.out)] at U2
      have h3 : Hid (Hr.underB cs x.name y.name = true → Hr.underB cs y.name z.name = true → Hr.underB cs x.name z.name = true) := hide fun h1 h2 => (Hr.underB_iff _ _ _).2 (Hr.under_trans ((Hr.underB_iff _ _ _).1 h1) ((Hr.underB_iff _ _ _).1 h2))
      have h4 : Hid (x.name ≠ y.name → Hr.underB cs x.name y.name = true → Hr.underB cs y.name x.name = false) := hide fun hne h1 => by
        cases hu : Hr.underB cs y.name x.name with
        | false => rfl
        | true => exact absurd (Hr.under_anti ((Hr.underB_iff _ _ _).1 h1) ((Hr.underB_iff _ _ _).1 hu)) hne
      simp only [Hr.objN, List.toArray] at U2
      generalize Hr.underB cs x.name y.name = b1 at *
      generalize Hr.underB cs y.name z.name = b2 at *
      generalize Hr.underB cs x.name z.name = b3 at *
      generalize Hr.underB cs y.name x.name = b4 at *
      generalize x.name = lx at *
      generalize y.name = ly at *
      generalize z.name = lz at *
      have c4 := HC.out w4 HBd.out
      clear HUn HXx HYy HZz HE
      go_wp2_with fail
      refine (U1.out _ HBd.out).mono ?_
      rintro e w_a ⟨rfl, hb_a⟩
      have HB_a := hide (HBd.out.trans (hb_a.mono HBd.out.size))
      have c_a := HC.out _ HB_a.out
      clear hb_a
      go_wp2_with fail
      refine (U2.out _ HB_a.out).mono ?_
      rintro e w_b ⟨rfl, hb_b⟩
      have HB_b := hide (HB_a.out.trans (hb_b.mono HB_a.out.size))
      have c_b := HC.out _ HB_b.out
      clear hb_b
      go_wp2_with fail
      refine (U3.out _ HB_b.out).mono ?_
      rintro e w_c ⟨rfl, hb_c⟩
      have HB_c := hide (HB_b.out.trans (hb_c.mono HB_b.out.size))
      have c_c := HC.out _ HB_c.out
      clear hb_c
      cases b1 with
      | false =>
        by_cases he : lx = ly
        · subst he
          go_wp2_with fail
          refine (HWk.out _ HB_c.out).mono ?_
          rintro e wz ⟨rfl, hbz⟩
          have HBz := hide (HB_c.out.trans (hbz.mono HB_c.out.size))
          clear hbz
          go_wp2_with fail
          go_ret
          exact ⟨rfl, HW.out _ HBz.out⟩
        · have hne : (lx == ly) = false := by simp [he]
          go_wp2_with fail
          refine (U3.out _ HB_c.out).mono ?_
          rintro e w_d ⟨rfl, hb_d⟩
          have HB_d := hide (HB_c.out.trans (hb_d.mono HB_c.out.size))
          have c_d := HC.out _ HB_d.out
          clear hb_d
          go_wp2_with fail
          refine (HWk.out _ HB_d.out).mono ?_
          rintro e wz ⟨rfl, hbz⟩
          have HBz := hide (HB_d.out.trans (hbz.mono HB_d.out.size))
          clear hbz
          go_wp2_with fail
          go_ret
          exact ⟨rfl, HW.out _ HBz.out⟩
      | true =>
        go_wp2_with fail
        refine (U4.out _ HB_c.out).mono ?_
        rintro e w_d ⟨rfl, hb_d⟩
        have HB_d := hide (HB_c.out.trans (hb_d.mono HB_c.out.size))
        have c_d := HC.out _ HB_d.out
        clear hb_d
        cases b2 with
        | false =>
          by_cases he : lx = ly
          · subst he
            go_wp2_with fail
            refine (HWk.out _ HB_d.out).mono ?_
            rintro e wz ⟨rfl, hbz⟩
            have HBz := hide (HB_d.out.trans (hbz.mono HB_d.out.size))
            clear hbz
            go_wp2_with fail
            go_ret
            exact ⟨rfl, HW.out _ HBz.out⟩
          · have hne : (lx == ly) = false := by simp [he]
            obtain rfl := h4.out he (by first | rfl | trivial)
            go_wp2_with fail
            refine (U3.out _ HB_d.out).mono ?_
            rintro e w_e ⟨rfl, hb_e⟩
            have HB_e := hide (HB_d.out.trans (hb_e.mono HB_d.out.size))
            have c_e := HC.out _ HB_e.out
            clear hb_e
            go_wp2_with fail
            refine (U6.out _ HB_e.out).mono ?_
            rintro e w_f ⟨rfl, hb_f⟩
            have HB_f := hide (HB_e.out.trans (hb_f.mono HB_e.out.size))
            have c_f := HC.out _ HB_f.out
            clear hb_f
            go_wp2_with fail
            refine (HWk.out _ HB_f.out).mono ?_
            rintro e wz ⟨rfl, hbz⟩
            have HBz := hide (HB_f.out.trans (hbz.mono HB_f.out.size))
            clear hbz
            go_wp2_with fail
            go_ret
            exact ⟨rfl, HW.out _ HBz.out⟩
        | true =>
          obtain rfl := h3.out (by first | rfl | trivial) (by first | rfl | trivial)
          go_wp2_with fail
          refine (U5.out _ HB_d.out).mono ?_
          rintro e w_g ⟨rfl, hb_g⟩
          have HB_g := hide (HB_d.out.trans (hb_g.mono HB_d.out.size))
          have c_g := HC.out _ HB_g.out
          clear hb_g
          by_cases he : lx = ly
          · subst he
            go_wp2_with fail
            refine (HWk.out _ HB_g.out).mono ?_
            rintro e wz ⟨rfl, hbz⟩
            have HBz := hide (HB_g.out.trans (hbz.mono HB_g.out.size))
            clear hbz
            go_wp2_with fail
            go_ret
            exact ⟨rfl, HW.out _ HBz.out⟩
          · have hne : (lx == ly) = false := by simp [he]
            obtain rfl := h4.out he (by first | rfl | trivial)
            go_wp2_with fail
            refine (U3.out _ HB_g.out).mono ?_
            rintro e w_e ⟨rfl, hb_e⟩
            have HB_e := hide (HB_g.out.trans (hb_e.mono HB_g.out.size))
            have c_e := HC.out _ HB_e.out
            clear hb_e
            go_wp2_with fail
            refine (U6.out _ HB_e.out).mono ?_
            rintro e w_f ⟨rfl, hb_f⟩
            have HB_f := hide (HB_e.out.trans (hb_f.mono HB_e.out.size))
            have c_f := HC.out _ HB_f.out
            clear hb_f
            go_wp2_with fail
            refine (HWk.out _ HB_f.out).mono ?_
            rintro e wz ⟨rfl, hbz⟩
            have HBz := hide (HB_f.out.trans (hbz.mono HB_f.out.size))
            clear hbz
            go_wp2_with fail
            go_ret
            exact ⟨rfl, HW.out _ HBz.out⟩
end Go.Proofs.YtildjihgklgibaaDoor

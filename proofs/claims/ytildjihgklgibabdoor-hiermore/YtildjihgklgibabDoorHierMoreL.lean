/- HierMore: the walk. -/
import Derived.Test.YtildjihgklgibabDoorRefHE
import Derived.Test.YtildjihgklgibabDoorRefHN
import Derived.Test.YtildjihgklgibabDoorHierMoreP
import Derived.Test.YtildjihgklgibabDoorEqS
import Derived.Test.YtildjihgklgibabDoorHeavyX
import Derived.Deep.RegionHeld3
namespace Go.Proofs.YtildjihgklgibabDoor
open Go.RowKit
set_option linter.unusedVariables false
set_option linter.unusedSimpArgs false

theorem mod_lenHierMore (n : Int) (c : Nat) (hc : 0 < c) (hc2 : c ≤ 100000) : ∃ m : Nat, m < c ∧ wrap64 ((IntKind.u64.wrap n).tmod (c : Int)) = (m : Int) := by
  have h0 : 0 ≤ IntKind.u64.wrap n := by
    rw [IntKind.wrap_u64]; omega
  generalize IntKind.u64.wrap n = u at h0
  have h1 : 0 ≤ u.tmod (c : Int) := Int.tmod_nonneg _ h0
  have h2 : u.tmod (c : Int) < (c : Int) := Int.tmod_lt_of_pos _ (by omega)
  generalize u.tmod (c : Int) = r at h1 h2
  refine ⟨r.toNat, by omega, ?_⟩
  unfold wrap64; omega

set_option maxRecDepth 100000 in
set_option maxHeartbeats 16000000 in
theorem hierMore_walk (v : Value) (cs : List Pp.XCls) (a : Int) (b : Int) (w : World) (ht : TabS w) (h : ProgX w v cs) :
    Calls Tryd.prog 3 #[.agg #[v], .int .i64 a, .int .i64 b] w fun e w' => e = .returned (.bool true) ∧ Below w.heap.size w w' := by
  have HP := hide (fun wx (hb : Below w.heap.size w wx) => h.on hb)
  have HT := hide (fun wx (hb : Below w.heap.size w wx) => ht.below hb)
  obtain ⟨pa, pc, rfl, _⟩ := h.1.len
  obtain ⟨n, hn'⟩ : ∃ n, n = cs.length := ⟨_, rfl⟩
  have HN := hide hn'
  rw [← hn'] at HP ⊢
  clear h ht hn'
  have hx0 := hide (heap_alloc_new w (.cells #[.slice pa n pc] 24))
  have HB0 := hide ((Below.refl w.heap.size w).alloc (Nat.le_refl _) (.cells #[.slice pa n pc] 24))
  go_enter Tryd.func3, Tryd.ntmps3
  go_wp2_with fail
  generalize w.alloc (.cells #[.slice pa n pc] 24) = w0 at *
  have HC : Hid (∀ wx, Below w0.heap.size w0 wx → wx.cell? ⟨w.heap.size, 0, none⟩ = some (.slice pa n pc)) := hide fun wx hb => cell_box ((hb.block _ (Ow.lt_of_blk hx0.out)).trans hx0.out) 0
  have HW : Hid (∀ wx, Below w0.heap.size w0 wx → Below w.heap.size w wx) := hide fun wx hb => HB0.out.trans (hb.mono HB0.out.size)
  clear hx0
  refine (Heavy_any cs _ w0 (HP.out w0 HB0.out)).mono ?_
  rintro e w1 ⟨⟨b, rfl, hlb⟩, hb1⟩
  have HB1 := hide hb1
  clear hb1
  cases b with
  | true =>
    go_wp2_with fail
    go_ret
    exact ⟨rfl, HW.out _ HB1.out⟩
  | false =>
    have HLt := hide (hlb rfl)
    have c1 := HC.out w1 HB1.out
    clear hlb
    go_wp2_with fail
    refine (RHier_any cs _ w1 (HP.out _ (HW.out _ HB1.out)) HLt.out).mono ?_
    rintro e w2 ⟨rfl, hb2⟩
    have HB2 := hide (HB1.out.trans (hb2.mono HB1.out.size))
    have c2 := HC.out w2 HB2.out
    clear hb2 c1
    by_cases he : Hr.errL cs ≠ 0
    · generalize Hr.errL cs = er at *
      have he' : (er != 0) = true := by simpa using he
      go_wp2_with fail
      go_ret
      exact ⟨rfl, HW.out _ HB2.out⟩
    have HE := hide (show Hr.errL cs = 0 by simpa using he)
    rw [HE.out]
    clear he
    by_cases hn10 : 10 ≤ n
    · have hn10' : (10 : Int) ≤ (n : Int) := by omega
      go_wp2_with fail
      go_ret
      exact ⟨rfl, HW.out _ HB2.out⟩
    have hn9 : (n : Int) < 10 := by omega
    have HN10 : Hid (cs.length < 10) := hide (by rw [← HN.out]; omega)
    go_wp2_with fail
    refine (RAt_any cs _ Hr.zzN w2 (HP.out _ (HW.out _ HB2.out)).1 (HP.out _ (HW.out _ HB2.out)).2).mono ?_
    rintro e w3 ⟨rfl, hb3⟩
    have HB3 := hide (HB2.out.trans (hb3.mono HB2.out.size))
    have c3 := HC.out w3 HB3.out
    clear hb3 c2
    cases hz : Hr.placeL cs Hr.zzN with
    | some k =>
      simp only [Hr.placeI]
      go_wp2_with fail
      go_ret
      exact ⟨rfl, HW.out _ HB3.out⟩
    | none =>
    have HZ := hide hz
    simp only [Hr.placeI]
    clear hz
    go_wp2_with fail
    refine (TwinProgram_any cs _ w3 (HP.out _ (HW.out _ HB3.out)) HLt.out).mono ?_
    rintro e w4 ⟨vt, rfl, hpt, hb4⟩
    have HB4 := hide (HB3.out.trans (hb4.mono HB3.out.size))
    obtain ⟨ta, tc, rfl⟩ := hpt.1.shape
    obtain ⟨j0, hj, hj0, hj1, hj2⟩ := Ow.info_of Ow.i_cls
    have hA := Ow.bel_alloc2 w4 (.cells #[.slice ta cs.length tc] 24) (.cells #[.string ⟨#[90, 122, 95, 110, 101, 119]⟩, .bool false, .string ⟨#[]⟩, .slice none 0 0, .slice none 0 0, .slice none 0 0] 34)
    have HA := hide hA
    have HQ := hide (Ow.blk_alloc2a w4 (.cells #[.slice ta cs.length tc] 24) (.cells #[.string ⟨#[90, 122, 95, 110, 101, 119]⟩, .bool false, .string ⟨#[]⟩, .slice none 0 0, .slice none 0 0, .slice none 0 0] 34))
    have HQ1 := hide (heap_alloc_new w4 (.cells #[.slice ta cs.length tc] 24))
    have HO5 := hide (hpt.1.on hA fun _ _ h => h.on hA (Nat.le_refl _))
    have HR5 : Hid (RowX ((w4.alloc (.cells #[.slice ta cs.length tc] 24)).alloc (.cells #[.string ⟨#[90, 122, 95, 110, 101, 119]⟩, .bool false, .string ⟨#[]⟩, .slice none 0 0, .slice none 0 0, .slice none 0 0] 34)) 6 (Ow.ClsO ((w4.alloc (.cells #[.slice ta cs.length tc] 24)).alloc (.cells #[.string ⟨#[90, 122, 95, 110, 101, 119]⟩, .bool false, .string ⟨#[]⟩, .slice none 0 0, .slice none 0 0, .slice none 0 0] 34)) w3.heap.size) (.slice (some ⟨w4.heap.size + 1, 0, none⟩) 1 1) [Hr.zz]) := hide (Hr.row_one (Ow.blk_alloc2b w4 _ _) ((Hr.bas_plain (n := Hr.zzN) (s := []) (by decide) (by decide)).o _ _))
    have q1 := cell_box HQ1.out 0
    have f1 := Ow.fz_blk HQ1.out 0
    have HS5 : Hid (w3.heap.size ≤ ((w4.alloc (.cells #[.slice ta cs.length tc] 24)).alloc (.cells #[.string ⟨#[90, 122, 95, 110, 101, 119]⟩, .bool false, .string ⟨#[]⟩, .slice none 0 0, .slice none 0 0, .slice none 0 0] 34)).heap.size) := hide (Nat.le_trans hb4.size hA.size)
    clear hA hb4 hpt c3
    go_wp2_with (at_builtin; refine Ow.wpList_app rfl (.tmp 34) (.tmp 36) 22 rfl Tryd.underlying22 hj hj0 hj1 hj2 (by decide) Ow.shp_cls rfl HO5.out rfl HR5.out ?c1 (by decide) HS5.out ?_)
    case c1 => rw [← HN.out]; simp; omega
    intro v' w6 hown hgrow
    have hkx := Ow.kx_grown HO5.out hgrow
    have HB6 := hide ((HB4.out.trans (HA.out.mono HB4.out.size)).trans ((Ow.bel_grown HO5.out HS5.out hgrow).mono HB3.out.size))
    have HQ6 := hide (hkx.blk _ _ _ _ HQ.out (by decide))
    have HO6 : Hid (Ow.OwnX w6 w3.heap.size 34 6 (Ow.ClsO w6 w3.heap.size) v' (cs ++ [Hr.zz])) := hide (hown.low (Nat.le_refl _) fun _ _ h => h.kx hkx (by decide) (by decide) (by decide) (by decide) (by decide) (by decide))
    obtain ⟨xa, xc, hv'⟩ := hown.shape
    obtain ⟨n1, hn1⟩ : ∃ q, q = (cs ++ [Hr.zz]).length := ⟨_, rfl⟩
    have HN1 := hide hn1
    rw [← hn1] at hv'
    subst hv'
    clear hown hgrow hkx HO5 HR5 HS5 hn1 q1 f1
    have f6 := Ow.fz_blk HQ6.out 0
    have t6 := cell_box HQ6.out 0
    have hK2 : Ow.Kx 24 w6 (w6.setCell ⟨w4.heap.size, 0, none⟩ (.slice xa n1 xc)) := Ow.Kx.set ⟨_, _, HQ6.out⟩ 0 (.slice xa n1 xc)
    have HQ7 : Hid ((w6.setCell ⟨w4.heap.size, 0, none⟩ (.slice xa n1 xc)).heap[w4.heap.size]? = some (.cells #[.slice xa n1 xc] 24 (0, 0))) := hide (Ow.blk_put HQ6.out 0 (.slice xa n1 xc))
    have HB7 : Hid (Below w0.heap.size w0 (w6.setCell ⟨w4.heap.size, 0, none⟩ (.slice xa n1 xc))) := hide (HB6.out.trans ((Below.refl _ _).setCell (p := ⟨w4.heap.size, 0, none⟩) HB4.out.size (.slice xa n1 xc)))
    have HO7 := hide (HO6.out.kx hK2 (by decide) fun _ _ h => h.kx hK2 (by decide) (by decide) (by decide) (by decide) (by decide) (by decide))
    have HPq7 : Hid (∀ wx, Below (w6.setCell ⟨w4.heap.size, 0, none⟩ (.slice xa n1 xc)).heap.size (w6.setCell ⟨w4.heap.size, 0, none⟩ (.slice xa n1 xc)) wx → ProgX wx (.slice xa n1 xc) (cs ++ [Hr.zz])) := hide fun wx hb => (Ow.ProgO.x (base := w3.heap.size) ⟨HO7.out, by have := HN10.out; rw [List.length_append]; show cs.length + 1 ≤ maxLen; unfold maxLen; omega⟩).on hb
    have c7 := HC.out _ HB7.out
    clear hK2 HO6 HO7 HB6
    go_wp2_with fail
    generalize w6.setCell ⟨w4.heap.size, 0, none⟩ (.slice xa n1 xc) = w7 at *
    clear f6 t6
    refine (names_any cs _ w7 (HP.out _ (HW.out _ HB7.out)) HLt.out).mono ?_
    rintro e w7n ⟨vn, rfl, hon, hb3⟩
    have HB8 := hide (HB7.out.trans (hb3.mono HB7.out.size))
    have HNm := hide (hon.row Ow.shp_str fun _ _ h => h)
    obtain ⟨na, nc, rfl⟩ := hon.shape
    have hnl : (Hr.namesL (Hr.allL cs)).length = 8 + n := by unfold Hr.namesL; rw [List.length_map, Hr.all_len, HN.out]; rfl
    have hn14 : n ≤ 14 := by rw [HN.out]; exact HLt.out.1
    rw [hnl] at HNm ⊢
    obtain ⟨m, hm⟩ : ∃ m, m = 8 + n := ⟨_, rfl⟩
    rw [← hm] at HNm ⊢
    have HM : Hid (m = (Hr.allL cs).length) := hide (by rw [hm, ← hnl]; unfold Hr.namesL; rw [List.length_map])
    have hm1 : 8 ≤ m ∧ m ≤ 22 := by omega
    obtain ⟨hm2, hm3⟩ := hm1
    have HAt : Hid (∀ q : Nat, q < m → ∃ (x : Pp.XCls) (g o : Nat), (Hr.allL cs)[q]? = some x ∧ na = some ⟨g, o, none⟩ ∧ ∀ wx, Below w7n.heap.size w7n wx → wx.cell? ⟨g, o + q, none⟩ = some (.string ⟨x.name.toArray⟩)) := hide (by
      intro q hq
      have hx : (Hr.allL cs)[q]? = some ((Hr.allL cs)[q]'(by rw [← HM.out]; exact hq)) := List.getElem?_eq_getElem _
      obtain ⟨g, o, e1, ys, hys, hc⟩ := Hr.row_at HNm.out (k := q) (x := ((Hr.allL cs)[q]'(by rw [← HM.out]; exact hq)).name) (by unfold Hr.namesL; rw [List.getElem?_map, hx]; rfl)
      refine ⟨_, g, o, hx, e1, fun wx hb => ?_⟩
      obtain rfl : ys = _ := hys.1
      have := hc wx hb 0 _ rfl
      simpa using this)
    have hb8h := hide hb3
    clear hb3 hon hnl hm c7
    have HZe := hide (Hr.err_zz HE.out HN10.out HZ.out)
    obtain ⟨qa, hqa, HQa⟩ := mod_lenHierMore a m (by omega) (by omega)
    obtain ⟨qb, hqb, HQb⟩ := mod_lenHierMore b m (by omega) (by omega)
    obtain ⟨x, g, o, hx, rfl, hxc⟩ := HAt.out qa hqa
    obtain ⟨y, g', o', hy, e1, hyc⟩ := HAt.out qb hqb
    cases e1
    have HXc := hide hxc
    have HYc := hide hyc
    obtain ⟨-, ho, -⟩ := Hr.err_zero HE.out
    have HPx := hide (ho qa x hx)
    have HPy := hide (ho qb y hy)
    have hD : Hid (Below w7n.heap.size w7n w7n.drew) := hide (Below.drew (Below.refl _ _))
    have hqa' : (qa : Int) < (m : Int) := by omega
    have hqb' : (qb : Int) < (m : Int) := by omega
    have hmi : (m : Int) ≤ 22 := by omega
    have hm0 : ¬ m = 0 := by omega
    have HQa' : IntKind.i64.wrap ((IntKind.u64.wrap a).tmod (m : Int)) = (qa : Int) := by rw [IntWalk.i64_left]; exact HQa
    have HQb' : IntKind.i64.wrap ((IntKind.u64.wrap b).tmod (m : Int)) = (qb : Int) := by rw [IntWalk.i64_left]; exact HQb
    have hwm : IntKind.u64.wrap (m : Int) = (m : Int) := by rw [IntKind.wrap_u64]; omega
    clear hx hy hxc hyc HAt ho
    go_wp2_with fail
    go_region_held3 (fun wz => wz.cell? ⟨g, o + qa, none⟩ = some (.string ⟨x.name.toArray⟩) ∧ wz.cell? ⟨g, o + qb, none⟩ = some (.string ⟨y.name.toArray⟩)) (exact ⟨HXc.out _ hD.out, HYc.out _ hD.out⟩) (fail)
    have HBd := hide (HB8.out.trans (hD.out.mono HB8.out.size))
    have H78 := hide (hb8h.out.trans (hD.out.mono hb8h.out.size))
    clear HQa HQb HQa' HQb' hqa' hqb' hm0 hwm HXc HYc hD HNm
    generalize w7n.drew = w8 at *
    have hmz : ((m : Int) == 0) = false := by simp; omega
    simp only [hmz]
    clear hmz
    have HW8 := hide (HW.out _ HBd.out)
    have HPp8 : Hid (∀ wx, Below w8.heap.size w8 wx → ProgX wx (.slice pa n pc) cs) := hide fun wx hb => HP.out wx (HW8.out.trans (hb.mono HW8.out.size))
    have HT8 : Hid (∀ wx, Below w8.heap.size w8 wx → TabS wx) := hide fun wx hb => HT.out wx (HW8.out.trans (hb.mono HW8.out.size))
    have HPq8 : Hid (∀ wx, Below w8.heap.size w8 wx → ProgX wx (.slice xa n1 xc) (cs ++ [Hr.zz])) := hide fun wx hb => HPq7.out wx (H78.out.trans (hb.mono H78.out.size))
    have HS : Hid (∀ wx, Below w8.heap.size w8 wx → wx.cell? ⟨w.heap.size, 0, none⟩ = some (.slice pa n pc) ∧ wx.cell? ⟨w4.heap.size, 0, none⟩ = some (.slice xa n1 xc)) := hide fun wx hb => ⟨HC.out wx (HBd.out.trans (hb.mono HBd.out.size)), cell_box (((H78.out.trans (hb.mono H78.out.size)).block _ (Ow.lt_of_blk HQ7.out)).trans HQ7.out) 0⟩
    have HUn : Hid (∀ (ds : List Pp.XCls) (vd : Value) (s t : Pp.Bs), (∀ wx, Below w8.heap.size w8 wx → ProgX wx vd ds) → ∀ wx, Below w8.heap.size w8 wx → Calls Tryd.prog 11 #[.agg #[vd], .string ⟨s.toArray⟩, .string ⟨t.toArray⟩] wx fun e w' => e = .returned (.bool (Hr.underB ds s t)) ∧ Below wx.heap.size wx w') := hide fun ds vd s t hp wx hb => by
      refine (Under_any ds vd s t wx (HT8.out _ hb) (hp _ hb)).mono ?_
      rintro e w' ⟨⟨y, rfl, hy⟩, hb'⟩
      have : y = Hr.underB ds s t := by
        cases y with
        | true => exact ((Hr.underB_iff _ _ _).2 (hy.1 rfl)).symm
        | false =>
          cases hu : Hr.underB ds s t with
          | false => rfl
          | true => exact hy.2 ((Hr.underB_iff _ _ _).1 hu)
      rw [this]
      exact ⟨rfl, hb'⟩
    have HCk : Hid (∀ wx, Below w8.heap.size w8 wx → Calls Tryd.prog 10 #[.agg #[.slice xa n1 xc]] wx fun e w' => e = .returned (.int .i64 0) ∧ Below wx.heap.size wx w') := hide fun wx hb => by
      have := hCheck_any (cs ++ [Hr.zz]) (.slice xa n1 xc) wx (HT8.out _ hb) (HPq8.out _ hb)
      rw [HZe.out] at this
      exact this
    obtain ⟨ub, hub⟩ : ∃ q, q = Hr.underB cs x.name y.name := ⟨_, rfl⟩
    have E1 : Hid (Hr.underB cs x.name y.name = ub) := hide hub.symm
    have E2 : Hid (Hr.underB (cs ++ [Hr.zz]) x.name y.name = ub) := hide (by rw [Hr.under_zz HE.out HN10.out HZ.out HPx.out HPy.out, hub])
    have E3 : Hid (Hr.underB (cs ++ [Hr.zz]) [90, 122, 95, 110, 101, 119] x.name = decide (x.name = Hr.objN)) := hide (Hr.under_new HE.out HN10.out HZ.out HPx.out)
    have E4 : Hid (Hr.underB (cs ++ [Hr.zz]) x.name [90, 122, 95, 110, 101, 119] = false) := hide (Hr.under_no HE.out HN10.out HZ.out HPx.out)
    have HKp := hide (Kinds_any cs (.slice pa n pc) x.name w8 (HT8.out _ (Below.refl _ _)) (HPp8.out _ (Below.refl _ _)))
    have HKq := hide (fun wx (hb : Below w8.heap.size w8 wx) => Kinds_any (cs ++ [Hr.zz]) (.slice xa n1 xc) x.name wx (HT8.out _ hb) (HPq8.out _ hb))
    have HKe := hide (Hr.kinds_zz HE.out HN10.out HZ.out HPx.out)
    have HWk := hide (fun wx (hb : Below w8.heap.size w8 wx) => hwakes_any wx (HT8.out _ hb))
    have HKl : Hid ((Hr.kindsQ cs x.name).length ≤ 14) := hide (Nat.le_trans (Hr.kinds_len cs cs x.name) HLt.out.1)
    generalize x.name = lx at *
    generalize y.name = ly at *
    have s0 := (HS.out w8 (Below.refl _ _)).1
    clear hub HPq7 HPx HPy
    go_wp2_with fail
    refine HKp.out.mono ?_
    rintro e w9 ⟨vk, rfl, hok, hb9⟩
    have HB9 := hide hb9
    have HOk9 := hide hok
    obtain ⟨ka, kc, rfl⟩ := hok.shape
    obtain ⟨kn, hkn⟩ : ∃ q, q = (Hr.kindsQ cs lx).length := ⟨_, rfl⟩
    have HKn := hide hkn
    rw [← hkn] at HOk9 HKl ⊢
    clear hok hb9 hkn HKp s0
    by_cases hlx : lx = Hr.objN
    · subst hlx
      rw [decide_eq_true rfl] at E3
      rw [if_pos rfl] at HKe
      have hA := HB9.out.alloc HB9.out.size (.cells #[.string ⟨#[90, 122, 95, 110, 101, 119]⟩] 9)
      have HA9 := hide hA
      have HO1 := hide (HOk9.out.on ((Below.refl w9.heap.size w9).alloc (Nat.le_refl _) (.cells #[.string ⟨#[90, 122, 95, 110, 101, 119]⟩] 9)) fun _ _ h => h)
      have HR1 : Hid (RowX (w9.alloc (.cells #[.string ⟨#[90, 122, 95, 110, 101, 119]⟩] 9)) 1 StrX (.slice (some ⟨w9.heap.size, 0, none⟩) 1 1) [Hr.zzN]) := hide (Hr.row_one (heap_alloc_new w9 _) ⟨rfl, by decide⟩)
      obtain ⟨i0, hi1, hi0, hi2, hi3⟩ := Ow.info_of Ow.i_str
      simp only [Hr.objN, List.toArray]
      clear hA
      go_wp2_with (at_builtin; refine Ow.wpList_app rfl (.tmp 69) (.tmp 70) 30 rfl Tryd.underlying30 hi1 hi0 hi2 hi3 (by decide) Ow.shp_str rfl HO1.out rfl HR1.out ?c2 (by decide) HA9.out.size ?_)
      case c2 => rw [← HKn.out]; have := HKl.out; simp; omega
      intro v' w10 hown hgrow
      have HWZ := hide (HA9.out.trans (Ow.bel_grown HO1.out HA9.out.size hgrow))
      have HRw := hide (hown.row Ow.shp_str fun _ _ h => h)
      obtain ⟨za, zc, hv'⟩ := hown.shape
      rw [← HKe.out] at HRw hv'
      have HLen : Hid ((Hr.kindsQ (cs ++ [Hr.zz]) Hr.objN).length ≤ 100000) := hide (by rw [HKe.out, List.length_append, ← HKn.out]; have := HKl.out; simp; omega)
      obtain ⟨zn, hzn⟩ : ∃ q, q = (Hr.kindsQ (cs ++ [Hr.zz]) Hr.objN).length := ⟨_, rfl⟩
      rw [← hzn] at hv'
      subst hv'
      clear hown hgrow HO1 HR1 hzn HOk9
      generalize w10 = wz at *
      simp only [Hr.objN, List.toArray] at E1 E2 E3 E4 HKq
      have ZCk := hide (fun wx (hb : Below wz.heap.size wz wx) => HCk.out wx (HWZ.out.trans (hb.mono HWZ.out.size)))
      have ZUn := hide (fun (ds : List Pp.XCls) (vd : Value) (s t : Pp.Bs) hp wx (hb : Below wz.heap.size wz wx) => HUn.out ds vd s t hp wx (HWZ.out.trans (hb.mono HWZ.out.size)))
      have ZKq := hide (fun wx (hb : Below wz.heap.size wz wx) => HKq.out wx (HWZ.out.trans (hb.mono HWZ.out.size)))
      have ZWk := hide (fun wx (hb : Below wz.heap.size wz wx) => HWk.out wx (HWZ.out.trans (hb.mono HWZ.out.size)))
      have ZS := hide (fun wx (hb : Below wz.heap.size wz wx) => HS.out wx (HWZ.out.trans (hb.mono HWZ.out.size)))
      have ZSt : Hid (∀ wx (vq : Value), Below wz.heap.size wz wx → RowX wx 1 StrX vq (Hr.kindsQ (cs ++ [Hr.zz]) Hr.objN) → Calls Tryd.prog 12 #[vq, (.slice za zn zc)] wx fun e w' => e = .returned (.bool true) ∧ Below wx.heap.size wx w') := hide fun wx vq hb hr => by
        refine (Strings_eq (Hr.kindsQ (cs ++ [Hr.zz]) Hr.objN) (Hr.kindsQ (cs ++ [Hr.zz]) Hr.objN) vq (.slice za zn zc) wx hr (HRw.out.on hb fun _ _ h => h) HLen.out HLen.out).mono ?_
        rintro e w' ⟨⟨y, rfl, hy⟩, hb'⟩
        rw [hy.2 rfl]
        exact ⟨rfl, hb'⟩
      have HBz : Hid (Below wz.heap.size wz wz.drew) := hide (Below.drew (Below.refl _ _))
      clear HCk HUn HKq HWk HS
      go_wp2_with fail
      go_region_held3 (fun wy => wy.cell? ⟨w.heap.size, 0, none⟩ = some (.slice pa n pc) ∧ wy.cell? ⟨w4.heap.size, 0, none⟩ = some (.slice xa n1 xc)) (exact ZS.out _ HBz.out)
        (first
          | (go_at_call 10
             refine (ZCk.out _ HBz.out).mono ?_
             rintro e wn ⟨rfl, hbn⟩
             have HBz := hide (HBz.out.trans (hbn.mono HBz.out.size))
             clear hbn)
          | (go_at_call 11
             refine (ZUn.out _ _ _ _ (by first | exact HPp8.out | exact HPq8.out) _ HBz.out).mono ?_
             rintro e wn ⟨rfl, hbn⟩
             have HBz := hide (HBz.out.trans (hbn.mono HBz.out.size))
             clear hbn
             first | rw [E1.out] | rw [E2.out] | rw [E3.out] | rw [E4.out])
          | (go_at_call 9
             refine (ZKq.out _ HBz.out).mono ?_
             rintro e wn ⟨vq, rfl, hok, hbn⟩
             have HBz := hide (HBz.out.trans (hbn.mono HBz.out.size))
             have HOk := hide (hok.row Ow.shp_str fun _ _ h => h)
             obtain ⟨qa2, qc2, rfl⟩ := hok.shape
             clear hok hbn)
          | (go_at_call 12
             refine (ZSt.out _ _ HBz.out HOk.out).mono ?_
             rintro e wn ⟨rfl, hbn⟩
             have HBz := hide (HBz.out.trans (hbn.mono HBz.out.size))
             clear hbn)
          | (go_at_call 13
             refine (ZWk.out _ HBz.out).mono ?_
             rintro e wn ⟨rfl, hbn⟩
             have HBz := hide (HBz.out.trans (hbn.mono HBz.out.size))
             clear hbn))
      all_goals
        go_wp2_with fail
        go_ret
        exact ⟨rfl, HW8.out.trans ((HWZ.out.trans (HBz.out.mono HWZ.out.size)).mono HW8.out.size)⟩
    · rw [decide_eq_false hlx] at E3
      rw [if_neg hlx, List.append_nil] at HKe
      have hne : (lx == Hr.objN) = false := by simp [hlx]
      simp only [Hr.objN] at hne
      have HWZ := hide HB9.out
      have HRw := hide (HOk9.out.row Ow.shp_str fun _ _ h => h)
      rw [← HKe.out] at HRw
      have HLen : Hid ((Hr.kindsQ (cs ++ [Hr.zz]) lx).length ≤ 100000) := hide (by rw [HKe.out, ← HKn.out]; have := HKl.out; omega)
      clear HOk9 HB9
      generalize w9 = wz at *
      have ZCk := hide (fun wx (hb : Below wz.heap.size wz wx) => HCk.out wx (HWZ.out.trans (hb.mono HWZ.out.size)))
      have ZUn := hide (fun (ds : List Pp.XCls) (vd : Value) (s t : Pp.Bs) hp wx (hb : Below wz.heap.size wz wx) => HUn.out ds vd s t hp wx (HWZ.out.trans (hb.mono HWZ.out.size)))
      have ZKq := hide (fun wx (hb : Below wz.heap.size wz wx) => HKq.out wx (HWZ.out.trans (hb.mono HWZ.out.size)))
      have ZWk := hide (fun wx (hb : Below wz.heap.size wz wx) => HWk.out wx (HWZ.out.trans (hb.mono HWZ.out.size)))
      have ZS := hide (fun wx (hb : Below wz.heap.size wz wx) => HS.out wx (HWZ.out.trans (hb.mono HWZ.out.size)))
      have ZSt : Hid (∀ wx (vq : Value), Below wz.heap.size wz wx → RowX wx 1 StrX vq (Hr.kindsQ (cs ++ [Hr.zz]) lx) → Calls Tryd.prog 12 #[vq, (.slice ka kn kc)] wx fun e w' => e = .returned (.bool true) ∧ Below wx.heap.size wx w') := hide fun wx vq hb hr => by
        refine (Strings_eq (Hr.kindsQ (cs ++ [Hr.zz]) lx) (Hr.kindsQ (cs ++ [Hr.zz]) lx) vq (.slice ka kn kc) wx hr (HRw.out.on hb fun _ _ h => h) HLen.out HLen.out).mono ?_
        rintro e w' ⟨⟨y, rfl, hy⟩, hb'⟩
        rw [hy.2 rfl]
        exact ⟨rfl, hb'⟩
      have HBz : Hid (Below wz.heap.size wz wz.drew) := hide (Below.drew (Below.refl _ _))
      clear HCk HUn HKq HWk HS
      go_wp2_with fail
      go_region_held3 (fun wy => wy.cell? ⟨w.heap.size, 0, none⟩ = some (.slice pa n pc) ∧ wy.cell? ⟨w4.heap.size, 0, none⟩ = some (.slice xa n1 xc)) (exact ZS.out _ HBz.out)
        (first
          | (go_at_call 10
             refine (ZCk.out _ HBz.out).mono ?_
             rintro e wn ⟨rfl, hbn⟩
             have HBz := hide (HBz.out.trans (hbn.mono HBz.out.size))
             clear hbn)
          | (go_at_call 11
             refine (ZUn.out _ _ _ _ (by first | exact HPp8.out | exact HPq8.out) _ HBz.out).mono ?_
             rintro e wn ⟨rfl, hbn⟩
             have HBz := hide (HBz.out.trans (hbn.mono HBz.out.size))
             clear hbn
             first | rw [E1.out] | rw [E2.out] | rw [E3.out] | rw [E4.out])
          | (go_at_call 9
             refine (ZKq.out _ HBz.out).mono ?_
             rintro e wn ⟨vq, rfl, hok, hbn⟩
             have HBz := hide (HBz.out.trans (hbn.mono HBz.out.size))
             have HOk := hide (hok.row Ow.shp_str fun _ _ h => h)
             obtain ⟨qa2, qc2, rfl⟩ := hok.shape
             clear hok hbn)
          | (go_at_call 12
             refine (ZSt.out _ _ HBz.out HOk.out).mono ?_
             rintro e wn ⟨rfl, hbn⟩
             have HBz := hide (HBz.out.trans (hbn.mono HBz.out.size))
             clear hbn)
          | (go_at_call 13
             refine (ZWk.out _ HBz.out).mono ?_
             rintro e wn ⟨rfl, hbn⟩
             have HBz := hide (HBz.out.trans (hbn.mono HBz.out.size))
             clear hbn))
      all_goals
        go_wp2_with fail
        go_ret
        exact ⟨rfl, HW8.out.trans ((HWZ.out.trans (HBz.out.mono HWZ.out.size)).mono HW8.out.size)⟩
end Go.Proofs.YtildjihgklgibabDoor

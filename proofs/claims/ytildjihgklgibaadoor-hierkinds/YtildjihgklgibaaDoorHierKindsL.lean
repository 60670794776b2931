/- HierKinds: the walk. -/
import Derived.Test.YtildjihgklgibaaDoorRefHE
import Derived.Test.YtildjihgklgibaaDoorRefHF
import Derived.Test.YtildjihgklgibaaDoorHierS
import Derived.Test.YtildjihgklgibaaDoorHeavyX
import Derived.Deep.RegionHeld3
namespace Go.Proofs.YtildjihgklgibaaDoor
open Go.RowKit
set_option linter.unusedVariables false
set_option linter.unusedSimpArgs false

theorem mod_lenHierKinds (n : Int) (c : Nat) (hc : 0 < c) (hc2 : c ≤ 100000) : ∃ m : Nat, m < c ∧ wrap64 ((IntKind.u64.wrap n).tmod (c : Int)) = (m : Int) := by
  have h0 : 0 ≤ IntKind.u64.wrap n := by
    rw [IntKind.wrap_u64]; omega
  generalize IntKind.u64.wrap n = u at h0
  have h1 : 0 ≤ u.tmod (c : Int) := Int.tmod_nonneg _ h0
  have h2 : u.tmod (c : Int) < (c : Int) := Int.tmod_lt_of_pos _ (by omega)
  generalize u.tmod (c : Int) = r at h1 h2
  refine ⟨r.toNat, by omega, ?_⟩
  unfold wrap64; omega

set_option maxRecDepth 100000 in
set_option maxHeartbeats 16000000 in
theorem hierKinds_walk (v : Value) (cs : List Pp.XCls) (a : Int) (b : Int) (w : World) (ht : TabS w) (h : ProgX w v cs) :
    Calls Tryd.prog 6 #[.agg #[v], .int .i64 a, .int .i64 b] w fun e w' => e = .returned (.bool true) ∧ Below w.heap.size w w' := by
  have HP := hide (fun wx (hb : Below w.heap.size w wx) => h.on hb)
  have HT := hide (fun wx (hb : Below w.heap.size w wx) => ht.below hb)
  obtain ⟨pa, pc, rfl, _⟩ := h.1.len
  obtain ⟨n, hn'⟩ : ∃ n, n = cs.length := ⟨_, rfl⟩
  have HN := hide hn'
  rw [← hn'] at HP ⊢
  clear h ht hn'
  have hx0 := hide (heap_alloc_new w (.cells #[.slice pa n pc] 24))
  have HB0 := hide ((Below.refl w.heap.size w).alloc (Nat.le_refl _) (.cells #[.slice pa n pc] 24))
  go_enter Tryd.func6, Tryd.ntmps6
  go_wp2_with fail
  generalize w.alloc (.cells #[.slice pa n pc] 24) = w0 at *
  have HC : Hid (∀ wx, Below w0.heap.size w0 wx → wx.cell? ⟨w.heap.size, 0, none⟩ = some (.slice pa n pc)) := hide fun wx hb => cell_box ((hb.block _ (Ow.lt_of_blk hx0.out)).trans hx0.out) 0
  have HW : Hid (∀ wx, Below w0.heap.size w0 wx → Below w.heap.size w wx) := hide fun wx hb => HB0.out.trans (hb.mono HB0.out.size)
  clear hx0
  refine (Heavy_any cs _ w0 (HP.out w0 HB0.out)).mono ?_
  rintro e w1 ⟨⟨b, rfl, hlb⟩, hb1⟩
  have HB1 := hide hb1
  clear hb1
  cases b with
  | true =>
    go_wp2_with fail
    go_ret
    exact ⟨rfl, HW.out _ HB1.out⟩
  | false =>
    have HLt := hide (hlb rfl)
    have c1 := HC.out w1 HB1.out
    clear hlb
    go_wp2_with fail
    refine (RHier_any cs _ w1 (HP.out _ (HW.out _ HB1.out)) HLt.out).mono ?_
    rintro e w2 ⟨rfl, hb2⟩
    have HB2 := hide (HB1.out.trans (hb2.mono HB1.out.size))
    have c2 := HC.out w2 HB2.out
    clear hb2 c1
    by_cases he : Hr.errL cs ≠ 0
    · generalize Hr.errL cs = er at *
      have he' : (er != 0) = true := by simpa using he
      go_wp2_with fail
      go_ret
      exact ⟨rfl, HW.out _ HB2.out⟩
    have HE := hide (show Hr.errL cs = 0 by simpa using he)
    rw [HE.out]
    clear he
    go_wp2_with fail
    refine (names_any cs _ w2 (HP.out _ (HW.out _ HB2.out)) HLt.out).mono ?_
    rintro e w3 ⟨vn, rfl, hon, hb3⟩
    have HB3 := hide (HB2.out.trans (hb3.mono HB2.out.size))
    have HNm := hide (hon.row Ow.shp_str fun _ _ h => h)
    obtain ⟨na, nc, rfl⟩ := hon.shape
    have hnl : (Hr.namesL (Hr.allL cs)).length = 8 + n := by unfold Hr.namesL; rw [List.length_map, Hr.all_len, HN.out]; rfl
    have hn14 : n ≤ 14 := by rw [HN.out]; exact HLt.out.1
    rw [hnl] at HNm ⊢
    obtain ⟨m, hm⟩ : ∃ m, m = 8 + n := ⟨_, rfl⟩
    rw [← hm] at HNm ⊢
    have HM : Hid (m = (Hr.allL cs).length) := hide (by rw [hm, ← hnl]; unfold Hr.namesL; rw [List.length_map])
    have hm1 : 8 ≤ m ∧ m ≤ 22 := by omega
    obtain ⟨hm2, hm3⟩ := hm1
    have HAt : Hid (∀ q : Nat, q < m → ∃ (x : Pp.XCls) (g o : Nat), (Hr.allL cs)[q]? = some x ∧ na = some ⟨g, o, none⟩ ∧ ∀ wx, Below w3.heap.size w3 wx → wx.cell? ⟨g, o + q, none⟩ = some (.string ⟨x.name.toArray⟩)) := hide (by
      intro q hq
      have hx : (Hr.allL cs)[q]? = some ((Hr.allL cs)[q]'(by rw [← HM.out]; exact hq)) := List.getElem?_eq_getElem _
      obtain ⟨g, o, e1, ys, hys, hc⟩ := Hr.row_at HNm.out (k := q) (x := ((Hr.allL cs)[q]'(by rw [← HM.out]; exact hq)).name) (by unfold Hr.namesL; rw [List.getElem?_map, hx]; rfl)
      refine ⟨_, g, o, hx, e1, fun wx hb => ?_⟩
      obtain rfl : ys = _ := hys.1
      have := hc wx hb 0 _ rfl
      simpa using this)
    clear hb3 hon hnl hm c2
    obtain ⟨qa, hqa, HQa⟩ := mod_lenHierKinds a m (by omega) (by omega)
    obtain ⟨qb, hqb, HQb⟩ := mod_lenHierKinds b m (by omega) (by omega)
    obtain ⟨x, g, o, hx, rfl, hxc⟩ := HAt.out qa hqa
    obtain ⟨y, g', o', hy, e1, hyc⟩ := HAt.out qb hqb
    cases e1
    have HXc := hide hxc
    have HYc := hide hyc
    have hD : Hid (Below w3.heap.size w3 w3.drew) := hide (Below.drew (Below.refl _ _))
    have hqa' : (qa : Int) < (m : Int) := by omega
    have hqb' : (qb : Int) < (m : Int) := by omega
    have hmi : (m : Int) ≤ 22 := by omega
    have hm0 : ¬ m = 0 := by omega
    have HQa' : IntKind.i64.wrap ((IntKind.u64.wrap a).tmod (m : Int)) = (qa : Int) := by rw [IntWalk.i64_left]; exact HQa
    have HQb' : IntKind.i64.wrap ((IntKind.u64.wrap b).tmod (m : Int)) = (qb : Int) := by rw [IntWalk.i64_left]; exact HQb
    have hwm : IntKind.u64.wrap (m : Int) = (m : Int) := by rw [IntKind.wrap_u64]; omega
    clear hx hy hxc hyc HAt
    go_wp2_with fail
    go_region_held3 (fun wz => wz.cell? ⟨g, o + qa, none⟩ = some (.string ⟨x.name.toArray⟩) ∧ wz.cell? ⟨g, o + qb, none⟩ = some (.string ⟨y.name.toArray⟩)) (exact ⟨HXc.out _ hD.out, HYc.out _ hD.out⟩) (fail)
    all_goals
      have HBd := hide (HB3.out.trans (hD.out.mono HB3.out.size))
      clear HQa HQb HQa' HQb' hqa' hqb' hm0 hwm HXc HYc hD HNm
      generalize w3.drew = w4 at *
      have hmz : ((m : Int) == 0) = false := by simp; omega
      simp only [hmz]
      clear hmz
      have HUn : Hid (∀ (s t : Pp.Bs) (wx : World), Below w0.heap.size w0 wx → Calls Tryd.prog 14 #[.agg #[.slice pa n pc], .string ⟨s.toArray⟩, .string ⟨t.toArray⟩] wx fun e w' => e = .returned (.bool (Hr.underB cs s t)) ∧ Below wx.heap.size wx w') := hide fun s t wx hb => by
        refine (Under_any cs _ s t wx (HT.out _ (HW.out _ hb)) (HP.out _ (HW.out _ hb))).mono ?_
        rintro e w' ⟨⟨y, rfl, hy⟩, hb'⟩
        have : y = Hr.underB cs s t := by
          cases y with
          | true => exact ((Hr.underB_iff _ _ _).2 (hy.1 rfl)).symm
          | false =>
            cases hu : Hr.underB cs s t with
            | false => rfl
            | true => exact hy.2 ((Hr.underB_iff _ _ _).1 hu)
        rw [this]
        exact ⟨rfl, hb'⟩
      have HWk := hide (fun wx (hb : Below w0.heap.size w0 wx) => hwakes_any wx (HT.out _ (HW.out _ hb)))
      have HSb := hide (fun s (h : Hr.underB cs y.name x.name = true) (hs : s ∈ Hr.kindsQ cs y.name) => Hr.kinds_sub ((Hr.underB_iff _ _ _).1 h) hs)
      generalize x.name = lx at *
      generalize y.name = ly at *
      have hn14 : n ≤ 14 := by rw [HN.out]; exact HLt.out.1
      have hn14' : (n : Int) ≤ 14 := by omega
      obtain ⟨i0, hj1, hj0, hj2, hj3⟩ := Ow.info_of Ow.i_str
      go_wp2_with fail
      go_loopw [10, 11] (fun wv i wr => ∃ k : Nat, k ≤ n ∧ i = .int .i64 k ∧ Hid (Below w4.heap.size w4 wr) ∧ Hid (Ow.OwnX wr w4.heap.size 9 1 StrX wv (Hr.kindsL cs lx (cs.take k)))) (fun wv i _ => n - (intOf i).toNat)
      case atStart => exact ⟨0, Nat.zero_le _, rfl, hide (Below.refl _ _), hide (Ow.OwnX.nil _ _ _ _ _)⟩
      case round =>
        obtain ⟨k, hk, rfl, HBr, HO⟩ := hrel
        have HBw := hide (HBd.out.trans (HBr.out.mono HBd.out.size))
        have c5 := HC.out wr HBw.out
        obtain ⟨oa, oc, rfl⟩ := HO.out.shape
        by_cases hlt : k < n
        · obtain ⟨c, hc⟩ : ∃ c, cs[k]? = some c := ⟨cs[k]'(by rw [← HN.out]; exact hlt), List.getElem?_eq_getElem _⟩
          obtain ⟨g2, o2, e2, ys, hys, hcc⟩ := Hr.row_at (HP.out wr (HW.out _ HBw.out)).1 hc
          subst e2
          obtain ⟨vp, vc, vk, rfl, _, _, _, hnl, _⟩ := hys
          have HNl := hide hnl
          have HDr : Hid (Below wr.heap.size wr wr.drew) := hide (Below.drew (Below.refl _ _))
          have HS : Hid (∀ wz, Below wr.heap.size wr wz → wz.cell? ⟨w.heap.size, 0, none⟩ = some (.slice (some ⟨g2, o2, none⟩) n pc) ∧ wz.cell? ⟨g2, o2 + k * 6, none⟩ = some (.string ⟨c.name.toArray⟩) ∧ wz.cell? ⟨g2, o2 + k * 6 + 1, none⟩ = some (.bool c.iface)) := hide fun wz hb => ⟨HC.out wz (HBw.out.trans (hb.mono HBw.out.size)), hcc wz hb 0 _ rfl, hcc wz hb 1 _ rfl⟩
          have HUc := hide (HUn.out c.name lx)
          have HLn : Hid ((Hr.kindsL cs lx (cs.take k)).length ≤ 14) := hide (Nat.le_trans (Hr.kinds_len _ _ _) (by rw [List.length_take]; omega))
          have hlt' : (k : Int) < (n : Int) := by omega
          obtain ⟨ub, hub⟩ : ∃ q, q = Hr.underB cs c.name lx := ⟨_, rfl⟩
          rw [← hub] at HUc
          have HYes : Hid (c.iface = false → ub = true → Hr.kindsL cs lx (cs.take (k + 1)) = Hr.kindsL cs lx (cs.take k) ++ [c.name]) := hide fun h1 h2 => Hr.kinds_yes hc ⟨h1, (Hr.underB_iff _ _ _).1 (by rw [← hub]; exact h2)⟩
          have HNo : Hid (¬ (c.iface = false ∧ ub = true) → Hr.kindsL cs lx (cs.take (k + 1)) = Hr.kindsL cs lx (cs.take k)) := hide fun h => Hr.kinds_no hc fun h1 => h ⟨h1.1, by rw [hub]; exact (Hr.underB_iff _ _ _).2 h1.2⟩
          clear hcc hc hnl hub
          obtain ⟨al, hal⟩ : ∃ q, q = (Hr.kindsL cs lx (cs.take k)).length := ⟨_, rfl⟩
          have HAL := hide hal
          rw [← hal] at HLn HO ⊢
          clear hal
          cases hif : c.iface with
          | true =>
            have HOn : Hid (Ow.OwnX wr w4.heap.size 9 1 StrX (.slice oa al oc) (Hr.kindsL cs lx (cs.take (k + 1)))) := hide (by rw [HNo.out (by rw [hif]; simp)]; exact HO.out)
            rw [hif] at HS
            clear HYes HNo hif
            go_wp2_with fail
            have s0 := (HS.out wr (Below.refl _ _)).1
            have s1 := (HS.out wr (Below.refl _ _)).2.1
            have s2 := (HS.out wr (Below.refl _ _)).2.2
            clear HUc HUn HWk HSb HS
            go_quiet (fail)
            go_wp2_with fail
            have HB6 := hide (below_drewN HBr.out nq)
            have HO6 := hide (HOn.out.on (below_drewN (Below.refl _ _) nq) fun _ _ h => h)
            go_roundw
            case rel => first | exact ⟨k + 1, by omega, by go_num, HB6, HO6⟩ | ((repeat apply Exists.intro); exact ⟨⟨k + 1, by omega, by go_num, HB6, HO6⟩, rfl⟩)
            case measure => simp [intOf]; omega
          | false =>
            have HYs := hide (fun h => HYes.out hif h)
            have HNs := hide (fun h => HNo.out fun h2 => (h : ¬ ub = true) h2.2)
            rw [hif] at HS
            have s0 := (HS.out wr (Below.refl _ _)).1
            clear HYes HNo hif HSb
            generalize Hr.kindsL cs lx (cs.take k) = acc at *
            clear HUn HWk
            go_wp2_with fail
            go_region_held3 (fun wz => wz.cell? ⟨w.heap.size, 0, none⟩ = some (.slice (some ⟨g2, o2, none⟩) n pc) ∧ wz.cell? ⟨g2, o2 + k * 6, none⟩ = some (.string ⟨c.name.toArray⟩) ∧ wz.cell? ⟨g2, o2 + k * 6 + 1, none⟩ = some (.bool false)) (first | exact HS.out _ HB6.out | exact HS.out _ HDr.out)
              (first
                | (go_at_call 14
                   refine (HUc.out _ (HBw.out.trans (HDr.out.mono HBw.out.size))).mono ?_
                   rintro e w6 ⟨rfl, hb6⟩
                   have HB6 : Hid (Below wr.heap.size wr w6) := hide (HDr.out.trans (hb6.mono HDr.out.size))
                   clear hb6))
            all_goals
              have HW6 := hide (HBr.out.trans (HB6.out.mono HBr.out.size))
              have HO6 := hide (HO.out.on HB6.out fun _ _ h => h)
              cases ub with
              | false =>
                have HE6 := HNs.out (by decide)
                have HO7 : Hid (Ow.OwnX w6 w4.heap.size 9 1 StrX (.slice oa al oc) (Hr.kindsL cs lx (cs.take (k + 1)))) := hide (by rw [HE6]; exact HO6.out)
                clear HO6 HE6 HUc
                go_wp2_with fail
                go_roundw
                case rel => first | exact ⟨k + 1, by omega, by go_num, HW6, HO7⟩ | ((repeat apply Exists.intro); exact ⟨⟨k + 1, by omega, by go_num, HW6, HO7⟩, rfl⟩)
                case measure => simp [intOf]; omega
              | true =>
                have HE6 := hide (HYs.out rfl)
                have hA := HB6.out.alloc HB6.out.size (.cells #[.string ⟨c.name.toArray⟩] 9)
                have HA := hide (HBr.out.trans (hA.mono HBr.out.size))
                have HO1 := hide (HO.out.on hA fun _ _ h => h)
                have HR1 : Hid (RowX (w6.alloc (.cells #[.string ⟨c.name.toArray⟩] 9)) 1 StrX (.slice (some ⟨w6.heap.size, 0, none⟩) 1 1) [c.name]) := hide (Hr.row_one (heap_alloc_new w6 _) ⟨rfl, HNl.out⟩)
                have t0 := (HS.out _ HB6.out).1
                have t1 := (HS.out _ HB6.out).2.1
                clear hA HO6 HUc s0
                go_wp2_with (at_builtin; refine Ow.wpList_app rfl (.tmp 73) (.tmp 80) 29 rfl Tryd.underlying29 hj1 hj0 hj2 hj3 (by decide) Ow.shp_str rfl HO1.out rfl HR1.out ?c1 (by decide) HA.out.size ?_)
                case c1 => rw [← HAL.out]; have := HLn.out; simp; omega
                · intro v' w10 hown hgrow
                  have HB10 := hide (HA.out.trans (Ow.bel_grown HO1.out HA.out.size hgrow))
                  have HO10 : Hid (Ow.OwnX w10 w4.heap.size 9 1 StrX v' (Hr.kindsL cs lx (cs.take (k + 1)))) := hide (by rw [HE6.out]; exact hown)
                  clear hown hgrow HO1 HR1 HA t0 t1
                  go_wp2_with fail
                  go_roundw
                  case rel => first | exact ⟨k + 1, by omega, by go_num, HB10, HO10⟩ | ((repeat apply Exists.intro); exact ⟨⟨k + 1, by omega, by go_num, HB10, HO10⟩, rfl⟩)
                  case measure => simp [intOf]; omega
        · have HE : Hid (Hr.kindsL cs lx (cs.take k) = Hr.kindsQ cs lx) := hide (by rw [List.take_of_length_le (by rw [← HN.out]; omega)]; rfl)
          have hnl : ¬ ((k : Int) < (n : Int)) := by omega
          have hkl : (Hr.kindsQ cs lx).length ≤ 14 := Nat.le_trans (Hr.kinds_len cs cs lx) (by rw [← HN.out]; omega)
          rw [HE.out] at HO ⊢
          have HKi := hide (fun wx (hb : Below w0.heap.size w0 wx) (s : Pp.Bs) => Kinds_any cs _ s wx (HT.out _ (HW.out _ hb)) (HP.out _ (HW.out _ hb)))
          have HK2 : Hid (∀ s : Pp.Bs, (Hr.kindsQ cs s).length ≤ 14) := hide fun s => Nat.le_trans (Hr.kinds_len cs cs s) (by rw [← HN.out]; omega)
          clear HE
          obtain ⟨wl, hwl⟩ : ∃ q, q = Hr.kindsQ cs lx := ⟨_, rfl⟩
          have HWL := hide hwl
          rw [← hwl] at HO hkl ⊢
          clear hwl
          obtain ⟨wn, hwn⟩ : ∃ q, q = wl.length := ⟨_, rfl⟩
          have HWn := hide hwn
          rw [← hwn] at HO hkl ⊢
          clear hwn
          go_wp2_with fail
          refine (HKi.out wr HBw.out lx).mono ?_
          rintro e w6 ⟨v6, rfl, ho6, hb6⟩
          have HB6 := hide (HBw.out.trans (hb6.mono HBw.out.size))
          have HWr := hide (HO.out.row Ow.shp_str fun _ _ h => h)
          have HSt : Hid (Calls Tryd.prog 23 #[v6, .slice oa wn oc] w6 fun e w' => e = .returned (.bool true) ∧ Below w6.heap.size w6 w') := hide (by
            refine (Strings_eq wl wl _ _ w6 (by rw [HWL.out]; exact ho6.row Ow.shp_str fun _ _ h => h) (HWr.out.on hb6 fun _ _ h => h) (by rw [← HWn.out]; omega) (by rw [← HWn.out]; omega)).mono ?_
            rintro e w' ⟨⟨y, rfl, hy⟩, hb'⟩
            rw [hy.2 rfl]
            exact ⟨rfl, hb'⟩)
          have HW46 := hide (hb6)
          clear ho6 hb6
          go_wp2_with fail
          refine HSt.out.mono ?_
          rintro e w7 ⟨rfl, hb7⟩
          have HB7 := hide (HB6.out.trans (hb7.mono HB6.out.size))
          have HW47 := hide (HW46.out.trans (hb7.mono HW46.out.size))
          have c7 := HC.out w7 HB7.out
          have HUy := hide (HUn.out ly lx)
          obtain ⟨ub, hub⟩ : ∃ q, q = Hr.underB cs ly lx := ⟨_, rfl⟩
          have HUB := hide hub
          rw [← hub] at HUy
          clear hb7 hub c5 HSt HUn
          cases ub with
          | false =>
            go_wp2_with fail
            refine (HUy.out w7 HB7.out).mono ?_
            rintro e w8 ⟨rfl, hb8⟩
            have HB8 := hide (HB7.out.trans (hb8.mono HB7.out.size))
            clear hb8 c7
            go_wp2_with fail
            refine (HWk.out w8 HB8.out).mono ?_
            rintro e wz ⟨rfl, hbz⟩
            have HBz := hide (HB8.out.trans (hbz.mono HB8.out.size))
            clear hbz
            go_wp2_with fail
            go_ret
            exact ⟨rfl, HW.out _ HBz.out⟩
          | true =>
            go_wp2_with fail
            refine (HUy.out w7 HB7.out).mono ?_
            rintro e w8 ⟨rfl, hb8⟩
            have HB8 := hide (HB7.out.trans (hb8.mono HB7.out.size))
            have HW48 := hide (HW47.out.trans (hb8.mono HW47.out.size))
            have c8 := HC.out w8 HB8.out
            clear hb8 c7
            go_wp2_with fail
            refine (HKi.out w8 HB8.out ly).mono ?_
            rintro e w9 ⟨v9, rfl, ho9, hb9⟩
            have HB9 := hide (HB8.out.trans (hb9.mono HB8.out.size))
            have HW49 := hide (HW48.out.trans (hb9.mono HW48.out.size))
            have HYr := hide (ho9.row Ow.shp_str fun _ _ h => h)
            have HWr9 := hide (HWr.out.on HW49.out fun _ _ h => h)
            obtain ⟨ya, yc, rfl⟩ := ho9.shape
            have hyl := HK2.out ly
            obtain ⟨yl, hyl'⟩ : ∃ q, q = Hr.kindsQ cs ly := ⟨_, rfl⟩
            have HSub : Hid (∀ s, s ∈ yl → s ∈ wl) := hide fun s hs => by rw [HWL.out]; exact HSb.out s HUB.out.symm (by rw [← hyl']; exact hs)
            rw [← hyl'] at HYr hyl ⊢
            clear hyl'
            obtain ⟨yn, hyn⟩ : ∃ q, q = yl.length := ⟨_, rfl⟩
            have HYn := hide hyn
            rw [← hyn] at HYr hyl ⊢
            clear hb9 ho9 hyn c8 HUy HSb HKi HK2 HWr HW46 HW47 HW48 HW49 HB6 HB7 HB8
            have hwi : (wn : Int) ≤ 14 := by omega
            have hyi : (yn : Int) ≤ 14 := by omega
            go_wp2_with fail
            go_loopw [13] (fun i wr => ∃ k : Nat, k ≤ yn ∧ i = .int .i64 k ∧ Hid (Below w9.heap.size w9 wr)) (fun i _ => yn - (intOf i).toNat)
            case atStart => exact ⟨0, Nat.zero_le _, rfl, hide (Below.refl _ _)⟩
            case round =>
              obtain ⟨k2, hk2, rfl, HBk⟩ := hrel
              by_cases hlk : k2 < yn
              · obtain ⟨s, hs⟩ : ∃ s, yl[k2]? = some s := ⟨yl[k2]'(by rw [← HYn.out]; exact hlk), List.getElem?_eq_getElem _⟩
                obtain ⟨g5, o5, e5, ys5, hys5, hc5⟩ := Hr.row_at HYr.out hs
                subst e5
                obtain rfl : ys5 = _ := hys5.1
                have HC5 : Hid (∀ wx, Below w9.heap.size w9 wx → wx.cell? ⟨g5, o5 + k2, none⟩ = some (.string ⟨s.toArray⟩)) := hide fun wx hb => by have := hc5 wx hb 0 _ rfl; simpa using this
                have HMem := hide (HSub.out s (List.mem_of_getElem? hs))
                have hlk' : (k2 : Int) < (yn : Int) := by omega
                clear hs hys5 hc5
                go_wp2_with fail
                go_loopw [14, 15] (fun bv i wr => ∃ (j : Nat) (bb : Bool), j ≤ wn ∧ i = .int .i64 j ∧ bv = .bool bb ∧ Hid (Below w9.heap.size w9 wr) ∧ Hid (bb = true ↔ s ∈ wl.take j)) (fun bv i _ => wn - (intOf i).toNat)
                case atStart => exact ⟨0, false, Nat.zero_le _, rfl, rfl, HBk, hide (by simp)⟩
                case round =>
                  obtain ⟨j, bb, hj, rfl, rfl, HBj, HJ⟩ := hrel
                  by_cases hlj : j < wn
                  · obtain ⟨t, ht⟩ : ∃ t, wl[j]? = some t := ⟨wl[j]'(by rw [← HWn.out]; exact hlj), List.getElem?_eq_getElem _⟩
                    obtain ⟨g6, o6, e6, ys6, hys6, hc6⟩ := Hr.row_at HWr9.out ht
                    subst e6
                    obtain rfl : ys6 = _ := hys6.1
                    have HC6 : Hid (∀ wx, Below w9.heap.size w9 wx → wx.cell? ⟨g6, o6 + j, none⟩ = some (.string ⟨t.toArray⟩)) := hide fun wx hb => by have := hc6 wx hb 0 _ rfl; simpa using this
                    have HDr : Hid (Below wr.heap.size wr wr.drew) := hide (Below.drew (Below.refl _ _))
                    have HBd2 := hide (HBj.out.trans (HDr.out.mono HBj.out.size))
                    have hlj' : (j : Int) < (wn : Int) := by omega
                    have HJ2 : Hid (∀ b2 : Bool, (b2 = true ↔ (bb = true ∨ t = s)) → (b2 = true ↔ s ∈ wl.take (j + 1))) := hide (by
                      intro b2 hb2
                      rw [hb2, HJ.out, List.take_add_one, ht, List.mem_append]
                      simp [eq_comm])
                    clear ht hys6 hc6 HJ
                    have t5 := HC5.out wr HBj.out
                    have t6 := HC6.out wr HBj.out
                    cases bb with
                    | true =>
                      have HJ3 := hide (HJ2.out true (by simp))
                      clear HJ2
                      go_wp2_with fail
                      go_quiet (fail)
                      go_wp2_with fail
                      have HBn := hide (below_drewN HBj.out nq)
                      go_roundw
                      case rel => first | exact ⟨j + 1, true, by omega, by go_num, rfl, HBn, (by first | exact HJ3 | exact hide (by simpa using HJ3.out))⟩ | ((repeat apply Exists.intro); exact ⟨⟨j + 1, true, by omega, by go_num, rfl, HBn, (by first | exact HJ3 | exact hide (by simpa using HJ3.out))⟩, rfl⟩)
                      case measure => simp [intOf]; omega
                    | false =>
                      by_cases hts : t = s
                      · have HJ3 := hide (HJ2.out true (by simp [hts]))
                        subst hts
                        clear HJ2
                        go_wp2_with fail
                        go_quiet (fail)
                        go_wp2_with fail
                        have HBn := hide (below_drewN HBj.out nq)
                        go_roundw
                        case rel => first | exact ⟨j + 1, true, by omega, by go_num, rfl, HBn, (by first | exact HJ3 | exact hide (by simpa using HJ3.out))⟩ | ((repeat apply Exists.intro); exact ⟨⟨j + 1, true, by omega, by go_num, rfl, HBn, (by first | exact HJ3 | exact hide (by simpa using HJ3.out))⟩, rfl⟩)
                        case measure => simp [intOf]; omega
                      · have HJ3 := hide (HJ2.out false (by simp [hts]))
                        have hne : (t == s) = false := by simp [hts]
                        clear HJ2
                        go_wp2_with fail
                        go_quiet (fail)
                        go_wp2_with fail
                        have HBn := hide (below_drewN HBj.out nq)
                        go_roundw
                        case rel => first | exact ⟨j + 1, false, by omega, by go_num, rfl, HBn, (by first | exact HJ3 | exact hide (by simpa using HJ3.out))⟩ | ((repeat apply Exists.intro); exact ⟨⟨j + 1, false, by omega, by go_num, rfl, HBn, (by first | exact HJ3 | exact hide (by simpa using HJ3.out))⟩, rfl⟩)
                        case measure => simp [intOf]; omega
                  · have HJe : Hid (bb = true) := hide (by
                      have := HJ.out
                      rw [List.take_of_length_le (by rw [← HWn.out]; omega)] at this
                      exact this.2 HMem.out)
                    obtain rfl := HJe.out
                    have hnl : ¬ ((j : Int) < (wn : Int)) := by omega
                    clear HJ
                    go_wp2_with fail
                    go_roundw
                    case rel => first | exact ⟨k2 + 1, by omega, by go_num, HBj⟩ | ((repeat apply Exists.intro); exact ⟨⟨k2 + 1, by omega, by go_num, HBj⟩, rfl⟩)
                    case measure => simp [intOf]; omega
              · have hnl : ¬ ((k2 : Int) < (yn : Int)) := by omega
                have HBe := hide (HB9.out.trans (HBk.out.mono HB9.out.size))
                go_wp2_with fail
                refine (HWk.out _ HBe.out).mono ?_
                rintro e wz ⟨rfl, hbz⟩
                have HBz := hide (HBe.out.trans (hbz.mono HBe.out.size))
                clear hbz
                go_wp2_with fail
                go_ret
                exact ⟨rfl, HW.out _ HBz.out⟩
end Go.Proofs.YtildjihgklgibaaDoor

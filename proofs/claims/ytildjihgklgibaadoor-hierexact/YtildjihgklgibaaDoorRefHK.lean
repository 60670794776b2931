/- What the page's Kinds answers of a sound order. -/
import Derived.Test.YtildjihgklgibaaDoorRefHG
import Derived.Test.YtildjihgklgibaaDoorRefHF
import Derived.WalkSmall
namespace Go.Proofs.YtildjihgklgibaaDoor
open Go.RowKit
set_option linter.unusedVariables false
set_option linter.unusedSimpArgs false

set_option maxRecDepth 100000 in
set_option maxHeartbeats 8000000 in
theorem RKinds_any (cs : List Pp.XCls) (v : Value) (nm : Pp.Bs) (w : World) (h : ProgX w v cs) (hl : Pp.Light cs) (he : Hr.errL cs = 0) (hif : ∀ c ∈ Hr.allL cs, c.ifaces.length ≤ 1000) (hm22 : (Hr.allL cs).length ≤ 22) :
    Calls Tryd.prog 24 #[.agg #[v], .string ⟨nm.toArray⟩] w fun e w' => ∃ v', e = .returned v' ∧ Ow.OwnX w' w.heap.size 9 1 StrX v' (Hr.kindsQ cs nm) ∧ Below w.heap.size w w' := by
  obtain ⟨i0, hj1, hj0, hj2, hj3⟩ := Ow.info_of Ow.i_str
  have HU := hide (fun wx (hb : Below w.heap.size w wx) (a : Pp.Bs) (ha : a.length ≤ maxLen) => RUnder_any cs v a nm wx (h.on hb) hl he hif hm22 ha)
  have HR := hide h.1
  have hn14 := hl.1
  obtain ⟨pa, pc, rfl, _⟩ := h.1.len
  obtain ⟨n, hn'⟩ : ∃ n, n = cs.length := ⟨_, rfl⟩
  have HN := hide hn'
  rw [← hn'] at HU HR hn14 ⊢
  clear h hl hn' he hif hm22
  have hx0 := hide (heap_alloc_new w (.cells #[.slice pa n pc] 24))
  have HB0 := hide ((Below.refl w.heap.size w).alloc (Nat.le_refl _) (.cells #[.slice pa n pc] 24))
  obtain ⟨kq, hkq⟩ : ∃ q, q = Hr.kindsQ cs nm := ⟨_, rfl⟩
  have HKQ := hide hkq
  rw [← hkq]
  clear hkq
  go_enter Tryd.func24, Tryd.ntmps24
  go_wp2_with fail
  generalize w.alloc (.cells #[.slice pa n pc] 24) = w0 at *
  have HC : Hid (∀ wx, Below w0.heap.size w0 wx → wx.cell? ⟨w.heap.size, 0, none⟩ = some (.slice pa n pc)) := hide fun wx hb => cell_box ((hb.block _ (Ow.lt_of_blk hx0.out)).trans hx0.out) 0
  have HW : Hid (∀ wx, Below w0.heap.size w0 wx → Below w.heap.size w wx) := hide fun wx hb => HB0.out.trans (hb.mono HB0.out.size)
  clear hx0
  go_loopw [5, 6] (fun ov i wr => ∃ k : Nat, k ≤ n ∧ i = .int .i64 k ∧ Hid (Below w0.heap.size w0 wr) ∧ Hid (Ow.OwnX wr w0.heap.size 9 1 StrX ov (Hr.kindsL cs nm (cs.take k)))) (fun ov i _ => n - (intOf i).toNat)
  case atStart => exact ⟨0, Nat.zero_le _, rfl, hide (Below.refl _ _), hide (Ow.OwnX.nil _ _ _ _ _)⟩
  case round =>
    obtain ⟨k, hk, rfl, HB, HO⟩ := hrel
    have c0 := HC.out wr HB.out
    obtain ⟨oa, oc, rfl⟩ := HO.out.shape
    by_cases hlt : k < n
    · obtain ⟨c, hc⟩ : ∃ c, cs[k]? = some c := ⟨cs[k]'(by rw [← HN.out]; exact hlt), List.getElem?_eq_getElem _⟩
      obtain ⟨g2, o2, e2, ys, hys, hcc⟩ := Hr.row_at HR.out hc
      subst e2
      have hr := hcc wr (HW.out _ HB.out)
      have HNl : Hid (c.name.length ≤ maxLen) := hide (by obtain ⟨_, _, _, _, _, _, _, hnl, _⟩ := hys; exact hnl)
      obtain ⟨va1, vd1, va2, vd2, va3, vd3, rfl⟩ := Hr.at_c hys
      have r0 := hr 0 _ rfl
      have r1 := hr 1 _ rfl
      have r2 := hr 2 _ rfl
      have r3 := hr 3 _ rfl
      have r4 := hr 4 _ rfl
      have r5 := hr 5 _ rfl
      rw [Nat.add_zero] at r0
      have hlt' : (k : Int) < (n : Int) := by omega
      have hni : (n : Int) ≤ 14 := by omega
      have HLn : Hid ((Hr.kindsL cs nm (cs.take k)).length ≤ 14) := hide (Nat.le_trans (Hr.kinds_len _ _ _) (by rw [List.length_take]; omega))
      obtain ⟨al, hal⟩ : ∃ q, q = (Hr.kindsL cs nm (cs.take k)).length := ⟨_, rfl⟩
      have HAL := hide hal
      rw [← hal] at HLn HO ⊢
      obtain ⟨ub, hub⟩ : ∃ q, q = Hr.underB cs c.name nm := ⟨_, rfl⟩
      have HYes : Hid (c.iface = false → ub = true → Hr.kindsL cs nm (cs.take (k + 1)) = Hr.kindsL cs nm (cs.take k) ++ [c.name]) := hide fun h1 h2 => Hr.kinds_yes hc ⟨h1, (Hr.underB_iff _ _ _).1 (by rw [← hub]; exact h2)⟩
      have HNo : Hid (¬ (c.iface = false ∧ ub = true) → Hr.kindsL cs nm (cs.take (k + 1)) = Hr.kindsL cs nm (cs.take k)) := hide fun h => Hr.kinds_no hc fun h1 => h ⟨h1.1, by rw [hub]; exact (Hr.underB_iff _ _ _).2 h1.2⟩
      have hA := (Below.refl wr.heap.size wr).alloc (Nat.le_refl _) (.cells #[.string ⟨c.name.toArray⟩, .bool c.iface, .string ⟨c.super.toArray⟩, .slice va1 c.ifaces.length vd1, .slice va2 c.fields.length vd2, .slice va3 c.methods.length vd3] 33)
      have HX := hide (heap_alloc_new wr (.cells #[.string ⟨c.name.toArray⟩, .bool c.iface, .string ⟨c.super.toArray⟩, .slice va1 c.ifaces.length vd1, .slice va2 c.fields.length vd2, .slice va3 c.methods.length vd3] 33))
      have HB1 := hide (HB.out.trans (hA.mono HB.out.size))
      have HO1 := hide (HO.out.on hA fun _ _ h => h)
      have HUc := hide (fun wx (hb : Below w0.heap.size w0 wx) => HU.out wx (HW.out _ hb) c.name HNl.out)
      rw [← hub] at HUc
      have c1 := HC.out _ HB1.out
      clear hcc hys hr hal hub hA hc
      cases hif : c.iface with
      | true =>
        have HO2 : Hid (Ow.OwnX (wr.alloc (.cells #[.string ⟨c.name.toArray⟩, .bool c.iface, .string ⟨c.super.toArray⟩, .slice va1 c.ifaces.length vd1, .slice va2 c.fields.length vd2, .slice va3 c.methods.length vd3] 33)) w0.heap.size 9 1 StrX (.slice oa al oc) (Hr.kindsL cs nm (cs.take (k + 1)))) := hide (by rw [HNo.out (by rw [hif]; simp)]; exact HO1.out)
        rw [hif] at HO2 HB1 r1
        clear HYes HNo hif HO1 HX HUc c1
        go_wp2_with fail
        go_roundw
        case rel => first | exact ⟨k + 1, by omega, by go_num, HB1, HO2⟩ | ((repeat apply Exists.intro); exact ⟨⟨k + 1, by omega, by go_num, HB1, HO2⟩, rfl⟩)
        case measure => simp [intOf]; omega
      | false =>
        have HYs := hide (fun h => HYes.out hif h)
        have HNs := hide (fun (h : ¬ ub = true) => HNo.out fun h2 => h h2.2)
        rw [hif] at HO1 HB1 HX r1 c1
        clear HYes HNo hif
        have HBx := hide (fun wx (hb : Below w0.heap.size w0 wx) => hb)
        go_wp2_with fail
        generalize hw2 : wr.alloc (.cells #[.string ⟨c.name.toArray⟩, .bool false, .string ⟨c.super.toArray⟩, .slice va1 c.ifaces.length vd1, .slice va2 c.fields.length vd2, .slice va3 c.methods.length vd3] 33) = w2 at *
        clear hw2
        refine (HUc.out w2 HB1.out).mono ?_
        rintro e w3 ⟨rfl, hb3⟩
        have HB3 := hide (HB1.out.trans (hb3.mono HB1.out.size))
        have HO3 := hide (HO1.out.on hb3 fun _ _ h => h)
        have t0 := cell_box ((hb3.block _ (Ow.lt_of_blk HX.out)).trans HX.out) 0
        clear hb3 HO1 HO c1 HUc r0 r1 r2 r3 r4 r5
        cases ub with
        | false =>
          have HO4 : Hid (Ow.OwnX w3 w0.heap.size 9 1 StrX (.slice oa al oc) (Hr.kindsL cs nm (cs.take (k + 1)))) := hide (by rw [HNs.out (by decide)]; exact HO3.out)
          clear HO3 HYs HNs
          go_wp2_with fail
          go_roundw
          case rel => first | exact ⟨k + 1, by omega, by go_num, HB3, HO4⟩ | ((repeat apply Exists.intro); exact ⟨⟨k + 1, by omega, by go_num, HB3, HO4⟩, rfl⟩)
          case measure => simp [intOf]; omega
        | true =>
          have HE6 := hide (HYs.out rfl)
          have hA := (Below.refl w3.heap.size w3).alloc (Nat.le_refl _) (.cells #[.string ⟨c.name.toArray⟩] 9)
          have HA := hide (HB3.out.trans (hA.mono HB3.out.size))
          have HO5 := hide (HO3.out.on hA fun _ _ h => h)
          have HR5 : Hid (RowX (w3.alloc (.cells #[.string ⟨c.name.toArray⟩] 9)) 1 StrX (.slice (some ⟨w3.heap.size, 0, none⟩) 1 1) [c.name]) := hide (Hr.row_one (heap_alloc_new w3 _) ⟨rfl, HNl.out⟩)
          clear hA HO3 HYs HNs
          go_wp2_with (at_builtin; refine Ow.wpList_app rfl (.tmp 30) (.tmp 33) 29 rfl Tryd.underlying29 hj1 hj0 hj2 hj3 (by decide) Ow.shp_str rfl HO5.out rfl HR5.out ?c1 (by decide) HA.out.size ?_)
          case c1 => rw [← HAL.out]; have := HLn.out; simp; omega
          · intro v' w10 hown hgrow
            have HB10 := hide (HA.out.trans (Ow.bel_grown HO5.out HA.out.size hgrow))
            have HO10 : Hid (Ow.OwnX w10 w0.heap.size 9 1 StrX v' (Hr.kindsL cs nm (cs.take (k + 1)))) := hide (by rw [HE6.out]; exact hown)
            clear hown hgrow HO5 HR5 HA t0
            go_wp2_with fail
            go_roundw
            case rel => first | exact ⟨k + 1, by omega, by go_num, HB10, HO10⟩ | ((repeat apply Exists.intro); exact ⟨⟨k + 1, by omega, by go_num, HB10, HO10⟩, rfl⟩)
            case measure => simp [intOf]; omega
    · have hnl : ¬ ((k : Int) < (n : Int)) := by omega
      have HOe : Hid (Ow.OwnX wr w.heap.size 9 1 StrX (.slice oa (Hr.kindsL cs nm (cs.take k)).length oc) kq) := hide (by
        have h1 := HO.out.low (base' := w.heap.size) HB0.out.size fun _ _ h => h
        rw [HKQ.out, show Hr.kindsQ cs nm = Hr.kindsL cs nm cs from rfl]
        rw [List.take_of_length_le (by rw [← HN.out]; omega)] at h1 ⊢
        exact h1)
      generalize (Hr.kindsL cs nm (cs.take k)).length = ll at *
      have HBe := hide (HW.out _ HB.out)
      go_wp2_with fail
      go_ret
      exact ⟨_, rfl, HOe.out, HBe.out⟩
end Go.Proofs.YtildjihgklgibaaDoor

/- HierSupers: the walk. -/
import Derived.Test.YtildjihgklgibaaDoorRefHE
import Derived.Test.YtildjihgklgibaaDoorRefHF
import Derived.Test.YtildjihgklgibaaDoorHierS
import Derived.Test.YtildjihgklgibaaDoorHeavyX
import Derived.Deep.RegionHeld3
namespace Go.Proofs.YtildjihgklgibaaDoor
open Go.RowKit
set_option linter.unusedVariables false
set_option linter.unusedSimpArgs false

theorem mod_lenHierSupers (n : Int) (c : Nat) (hc : 0 < c) (hc2 : c ≤ 100000) : ∃ m : Nat, m < c ∧ wrap64 ((IntKind.u64.wrap n).tmod (c : Int)) = (m : Int) := by
  have h0 : 0 ≤ IntKind.u64.wrap n := by
    rw [IntKind.wrap_u64]; omega
  generalize IntKind.u64.wrap n = u at h0
  have h1 : 0 ≤ u.tmod (c : Int) := Int.tmod_nonneg _ h0
  have h2 : u.tmod (c : Int) < (c : Int) := Int.tmod_lt_of_pos _ (by omega)
  generalize u.tmod (c : Int) = r at h1 h2
  refine ⟨r.toNat, by omega, ?_⟩
  unfold wrap64; omega

set_option maxRecDepth 100000 in
set_option maxHeartbeats 16000000 in
theorem hierSupers_walk (v : Value) (cs : List Pp.XCls) (a : Int) (w : World) (ht : TabS w) (h : ProgX w v cs) :
    Calls Tryd.prog 5 #[.agg #[v], .int .i64 a] w fun e w' => e = .returned (.bool true) ∧ Below w.heap.size w w' := by
  have HP := hide (fun wx (hb : Below w.heap.size w wx) => h.on hb)
  have HT := hide (fun wx (hb : Below w.heap.size w wx) => ht.below hb)
  obtain ⟨pa, pc, rfl, _⟩ := h.1.len
  obtain ⟨n, hn'⟩ : ∃ n, n = cs.length := ⟨_, rfl⟩
  have HN := hide hn'
  rw [← hn'] at HP ⊢
  clear h ht hn'
  have hx0 := hide (heap_alloc_new w (.cells #[.slice pa n pc] 24))
  have HB0 := hide ((Below.refl w.heap.size w).alloc (Nat.le_refl _) (.cells #[.slice pa n pc] 24))
  go_enter Tryd.func5, Tryd.ntmps5
  go_wp2_with fail
  generalize w.alloc (.cells #[.slice pa n pc] 24) = w0 at *
  have HC : Hid (∀ wx, Below w0.heap.size w0 wx → wx.cell? ⟨w.heap.size, 0, none⟩ = some (.slice pa n pc)) := hide fun wx hb => cell_box ((hb.block _ (Ow.lt_of_blk hx0.out)).trans hx0.out) 0
  have HW : Hid (∀ wx, Below w0.heap.size w0 wx → Below w.heap.size w wx) := hide fun wx hb => HB0.out.trans (hb.mono HB0.out.size)
  clear hx0
  refine (Heavy_any cs _ w0 (HP.out w0 HB0.out)).mono ?_
  rintro e w1 ⟨⟨b, rfl, hlb⟩, hb1⟩
  have HB1 := hide hb1
  clear hb1
  cases b with
  | true =>
    go_wp2_with fail
    go_ret
    exact ⟨rfl, HW.out _ HB1.out⟩
  | false =>
    have HLt := hide (hlb rfl)
    have c1 := HC.out w1 HB1.out
    clear hlb
    go_wp2_with fail
    refine (RHier_any cs _ w1 (HP.out _ (HW.out _ HB1.out)) HLt.out).mono ?_
    rintro e w2 ⟨rfl, hb2⟩
    have HB2 := hide (HB1.out.trans (hb2.mono HB1.out.size))
    have c2 := HC.out w2 HB2.out
    clear hb2 c1
    by_cases he : Hr.errL cs ≠ 0
    · generalize Hr.errL cs = er at *
      have he' : (er != 0) = true := by simpa using he
      go_wp2_with fail
      go_ret
      exact ⟨rfl, HW.out _ HB2.out⟩
    have HE := hide (show Hr.errL cs = 0 by simpa using he)
    rw [HE.out]
    clear he
    go_wp2_with fail
    refine (names_any cs _ w2 (HP.out _ (HW.out _ HB2.out)) HLt.out).mono ?_
    rintro e w3 ⟨vn, rfl, hon, hb3⟩
    have HB3 := hide (HB2.out.trans (hb3.mono HB2.out.size))
    have HNm := hide (hon.row Ow.shp_str fun _ _ h => h)
    obtain ⟨na, nc, rfl⟩ := hon.shape
    have hnl : (Hr.namesL (Hr.allL cs)).length = 8 + n := by unfold Hr.namesL; rw [List.length_map, Hr.all_len, HN.out]; rfl
    have hn14 : n ≤ 14 := by rw [HN.out]; exact HLt.out.1
    rw [hnl] at HNm ⊢
    obtain ⟨m, hm⟩ : ∃ m, m = 8 + n := ⟨_, rfl⟩
    rw [← hm] at HNm ⊢
    have HM : Hid (m = (Hr.allL cs).length) := hide (by rw [hm, ← hnl]; unfold Hr.namesL; rw [List.length_map])
    have hm1 : 8 ≤ m ∧ m ≤ 22 := by omega
    obtain ⟨hm2, hm3⟩ := hm1
    have HAt : Hid (∀ q : Nat, q < m → ∃ (x : Pp.XCls) (g o : Nat), (Hr.allL cs)[q]? = some x ∧ na = some ⟨g, o, none⟩ ∧ ∀ wx, Below w3.heap.size w3 wx → wx.cell? ⟨g, o + q, none⟩ = some (.string ⟨x.name.toArray⟩)) := hide (by
      intro q hq
      have hx : (Hr.allL cs)[q]? = some ((Hr.allL cs)[q]'(by rw [← HM.out]; exact hq)) := List.getElem?_eq_getElem _
      obtain ⟨g, o, e1, ys, hys, hc⟩ := Hr.row_at HNm.out (k := q) (x := ((Hr.allL cs)[q]'(by rw [← HM.out]; exact hq)).name) (by unfold Hr.namesL; rw [List.getElem?_map, hx]; rfl)
      refine ⟨_, g, o, hx, e1, fun wx hb => ?_⟩
      obtain rfl : ys = _ := hys.1
      have := hc wx hb 0 _ rfl
      simpa using this)
    clear hb3 hon hnl hm c2
    obtain ⟨qa, hqa, HQa⟩ := mod_lenHierSupers a m (by omega) (by omega)
    obtain ⟨x, g, o, hx, rfl, hxc⟩ := HAt.out qa hqa
    have HXx := hide hx
    have hqa' : (qa : Int) < (m : Int) := by omega
    have hmi : (m : Int) ≤ 22 := by omega
    have hm0 : (m : Int) ≠ 0 := by omega
    have hwm : IntKind.u64.wrap (m : Int) = (m : Int) := by rw [IntKind.wrap_u64]; omega
    have r0 := hxc w3 (Below.refl _ _)
    have c3 := HC.out w3 HB3.out
    obtain ⟨_, ho, up, hg, hr⟩ := Hr.err_zero HE.out
    have HG := hide hg
    have HR := hide hr
    have HLk : Hid (Hr.lookL cs x.name = some qa) := hide (by rw [Hr.lookL_yes HE.out]; exact ho qa x hx)
    have HFd := hide (Find_any cs _ x.name w3 (HT.out _ (HW.out _ HB3.out)) (HP.out _ (HW.out _ HB3.out)) HLt.out)
    clear hx hxc HAt hg hr ho
    go_wp2_with fail
    refine HFd.out.mono ?_
    rintro e w4 ⟨hfi, hb4⟩
    unfold Hr.FindIs at hfi
    rw [HLk.out] at hfi
    obtain ⟨x', ys, hx', rfl, hys⟩ := hfi
    rw [HXx.out] at hx'; cases hx'
    obtain ⟨vp, vc, vk, rfl, p1, i1, k1, -⟩ := hys
    obtain ⟨va1, vd1, rfl⟩ := p1.shape
    obtain ⟨va2, vd2, rfl⟩ := i1.shape
    obtain ⟨va3, vd3, rfl⟩ := k1.shape
    have HB4 := hide (HB3.out.trans (hb4.mono HB3.out.size))
    clear hb4 p1 i1 k1 r0 c3 HFd
    simp only [clsXL, List.toArray]
    have hX5 := heap_alloc_new w4 (.cells #[.string ⟨x.name.toArray⟩, .bool x.iface, .string ⟨x.super.toArray⟩, .slice va1 x.ifaces.length vd1, .slice va2 x.fields.length vd2, .slice va3 x.methods.length vd3] 33)
    have HX5 := hide hX5
    have HB5 := hide (HB4.out.alloc HB4.out.size (.cells #[.string ⟨x.name.toArray⟩, .bool x.iface, .string ⟨x.super.toArray⟩, .slice va1 x.ifaces.length vd1, .slice va2 x.fields.length vd2, .slice va3 x.methods.length vd3] 33))
    clear hX5
    go_wp2_with fail
    generalize w4.alloc (.cells #[.string ⟨x.name.toArray⟩, .bool x.iface, .string ⟨x.super.toArray⟩, .slice va1 x.ifaces.length vd1, .slice va2 x.fields.length vd2, .slice va3 x.methods.length vd3] 33) = w5 at *
    go_loopw [9, 10] (fun at' i wr => ∃ (k p : Nat) (c : Pp.XCls) (vs : List Nat), i = .int .i64 k ∧ at' = .string ⟨c.name.toArray⟩ ∧ Hid (Below w5.heap.size w5 wr) ∧ Hid ((Hr.allL cs)[p]? = some c) ∧ Hid (Hr.Climb cs up qa p vs) ∧ Hid (vs.length = k) ∧ Hid (p = qa ∨ c.iface = false)) (fun _ i _ => m - (intOf i).toNat)
    case atStart => exact ⟨0, qa, x, [], rfl, rfl, hide (Below.refl _ _), HXx, hide (Hr.Climb.start (by rw [← HM.out]; exact hqa)), hide rfl, hide (.inl rfl)⟩
    case round =>
      obtain ⟨k, p, c, vs, rfl, rfl, HBr, HCp, HCl, HVl, HIf⟩ := hrel
      have hkm : k < m := by have := HCl.out.few; rw [HVl.out, ← HM.out] at this; exact this
      have hkm' : (k : Int) < (m : Int) := by omega
      have HBw := hide (HB5.out.trans (HBr.out.mono HB5.out.size))
      have c5 := HC.out wr HBw.out
      have HUn := hide (Under_any cs _ x.name c.name wr (HT.out _ (HW.out _ HBw.out)) (HP.out _ (HW.out _ HBw.out)))
      have HUq := hide (Hr.under_far HE.out HG.out HXx.out HCp.out HCl.out.fro)
      go_wp2_with fail
      refine HUn.out.mono ?_
      rintro e w6 ⟨hy, hb6⟩
      obtain rfl := hy.t HUq.out
      have HB6 := hide (HBw.out.trans (hb6.mono HBw.out.size))
      have HB56 := hide (HBr.out.trans (hb6.mono HBr.out.size))
      have c6 := HC.out w6 HB6.out
      have HSu := hide (Super_any cs _ c.name w6 (HT.out _ (HW.out _ HB6.out)) (HP.out _ (HW.out _ HB6.out)))
      rw [Hr.superQ_at HE.out HCp.out] at HSu
      clear hy hb6 c5 HUn HUq
      cases hs : Hr.superL c with
      | none =>
        rw [hs] at HSu
        simp only [Hr.pairS] at HSu
        have HNo := hide (Hr.superL_none hs)
        clear hs
        go_wp2_with fail
        refine HSu.out.mono ?_
        rintro e w7 ⟨rfl, hb7⟩
        have HB7 := hide (HB6.out.trans (hb7.mono HB6.out.size))
        have c7 := cell_box (((HB56.out.trans (hb7.mono HB56.out.size)).block _ (Ow.lt_of_blk HX5.out)).trans HX5.out) 1
        have HWk := hide (hwakes_any w7 (HT.out _ (HW.out _ HB7.out)))
        clear hb7 HSu c6
        by_cases hn : c.name = Hr.objN
        · rw [hn]
          simp only [Hr.objN, List.toArray]
          clear hn HNo
          go_wp2_with fail
          refine HWk.out.mono ?_
          rintro e w8 ⟨rfl, hb8⟩
          have HB8 := hide (HB7.out.trans (hb8.mono HB7.out.size))
          clear hb8
          go_wp2_with fail
          go_ret
          exact ⟨rfl, HW.out _ HB8.out⟩
        · have hi := HNo.out.resolve_left hn
          have hp : p = qa := HIf.out.resolve_right (by rw [hi]; decide)
          subst hp
          have := HCp.out
          rw [HXx.out] at this; cases this
          rw [hi] at c7
          have hne : (x.name == Hr.objN) = false := by simp [hn]
          simp only [Hr.objN] at hne
          clear hi hn HNo
          go_wp2_with fail
          refine HWk.out.mono ?_
          rintro e w8 ⟨rfl, hb8⟩
          have HB8 := hide (HB7.out.trans (hb8.mono HB7.out.size))
          clear hb8
          go_wp2_with fail
          go_ret
          exact ⟨rfl, HW.out _ HB8.out⟩
      | some s =>
        obtain ⟨q, d, h1, h2, h3, h4, h5, h6⟩ := Hr.super_step HG.out HCp.out hs
        have HDq := hide h2
        have HCq := hide (HCl.out.step HR.out h5 h6)
        have HIq : Hid (q = qa ∨ d.iface = false) := hide (.inr h4)
        have HVq : Hid ((p :: vs).length = k + 1) := hide (by rw [List.length_cons, HVl.out])
        rw [hs] at HSu
        simp only [Hr.pairS] at HSu
        subst h3
        clear hs h1 h2 h4 h5 h6 HCl HIf HVl
        go_wp2_with fail
        refine HSu.out.mono ?_
        rintro e w7 ⟨rfl, hb7⟩
        have HB7 := hide (HB56.out.trans (hb7.mono HB56.out.size))
        clear hb7 HSu c6
        go_wp2_with fail
        go_roundw
        case rel => first | exact ⟨k + 1, q, d, _, by go_num, rfl, HB7, HDq, HCq, HVq, HIq⟩ | ((repeat apply Exists.intro); exact ⟨⟨k + 1, q, d, _, by go_num, rfl, HB7, HDq, HCq, HVq, HIq⟩, rfl⟩)
        case measure => simp [intOf]; omega
end Go.Proofs.YtildjihgklgibaaDoor

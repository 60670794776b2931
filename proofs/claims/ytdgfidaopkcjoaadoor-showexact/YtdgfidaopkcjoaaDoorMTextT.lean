/- What the page's methodText answers: functions. -/
import Derived.Test.YtdgfidaopkcjoaaDoorTxtA
import Derived.Test.YtdgfidaopkcjoaaDoorShownC
import Derived.Deep.RegionHeld3
namespace Go.Proofs.YtdgfidaopkcjoaaDoor
open Go.RowKit
set_option linter.unusedVariables false
set_option linter.unusedSimpArgs false

set_option maxRecDepth 100000 in
set_option maxHeartbeats 16000000 in
theorem methodText_T (m : Pp.XMth) (ys : List Value) (w : World) (h : MthX w m ys) (hk : Pp.okMth m.toP) (hp : ∀ i ∈ m.code, 0 ≤ i.op) (hst : m.stat = true) :
    Calls Tryd.prog 31 #[.agg ys.toArray] w fun e w' => e = .returned (.string ⟨(Pp.mthT m.toP).toArray⟩) ∧ Below w.heap.size w w' := by
  obtain ⟨vp, vc, vk, rfl, p1, i1, k1, z1⟩ := h
  have HK := hide hk
  have HST := hide hst
  have HP := hide hp
  have HRp := hide p1
  have HRc := hide i1
  have HRk := hide k1
  obtain ⟨pa, pc, rfl, _⟩ := p1.len
  obtain ⟨ia, ic, rfl, _⟩ := i1.len
  obtain ⟨ka, kc, rfl, _⟩ := k1.len
  clear p1 i1 k1 z1 hp
  simp only [mthXL, hst]
  obtain ⟨ab, hab⟩ : ∃ q, q = m.abst := ⟨_, rfl⟩
  have HAB := hide hab
  rw [← hab]
  clear hab
  have hnp : m.params.length ≤ 4 := hk.2.1.1
  have hname : m.name.length ≤ 20 := Lx.nameL_len _ hk.1.1
  have HNm : Hid (∀ X, Pp.mthH ⟨m.name, true, m.abst, m.params, m.ret, m.locals, X, m.catches⟩ = [102, 117, 110, 99, 116, 105, 111, 110, 32] ++ m.name ++ [32, 40] ++ Pp.parT m.params ++ [32, 41, 32] ++ Pp.tws m.ret) := hide fun X => rfl
  obtain ⟨NB, hNB⟩ : ∃ q : ByteArray, q = ⟨m.name.toArray⟩ := ⟨_, rfl⟩
  obtain ⟨RB, hRB⟩ : ∃ q : ByteArray, q = ⟨m.ret.name.toArray⟩ := ⟨_, rfl⟩
  have HNB := hide hNB
  have HRB := hide hRB
  have hnb : NB.size ≤ 20 := by rw [hNB, str_size]; exact hname
  have hW := hide (fun w' => refTypeWords_any m.ret hk.2.2.1 w')
  rw [← hRB] at hW
  rw [← hNB, ← hRB]
  clear hNB hRB hname
  obtain ⟨np, hnp'⟩ : ∃ q, q = m.params.length := ⟨_, rfl⟩
  have HNP := hide hnp'
  rw [← hnp'] at HRp hnp ⊢
  clear hnp'
  obtain ⟨nc, hnc'⟩ : ∃ q, q = m.code.length := ⟨_, rfl⟩
  have HNC := hide hnc'
  rw [← hnc'] at HRc ⊢
  clear hnc'
  obtain ⟨nk, hnk'⟩ : ∃ q, q = m.catches.length := ⟨_, rfl⟩
  have HNK := hide hnk'
  rw [← hnk'] at HRk ⊢
  clear hnk' hk hst
  have hx0 := heap_alloc_new w (.cells #[.string NB, .bool true, .bool ab, .slice pa np pc, .int .i64 m.ret.kind, .string RB, .int .i64 m.locals, .slice ia nc ic, .slice ka nk kc] 55)
  have HB0 := hide ((Below.refl w.heap.size w).alloc (Nat.le_refl _) (.cells #[.string NB, .bool true, .bool ab, .slice pa np pc, .int .i64 m.ret.kind, .string RB, .int .i64 m.locals, .slice ia nc ic, .slice ka nk kc] 55))
  go_enter Tryd.func31, Tryd.ntmps31
  go_wp2_with fail
  generalize w.alloc (.cells #[.string NB, .bool true, .bool ab, .slice pa np pc, .int .i64 m.ret.kind, .string RB, .int .i64 m.locals, .slice ia nc ic, .slice ka nk kc] 55) = w0 at *
  have HC : Hid (∀ wx, Below w0.heap.size w0 wx → wx.heap[w.heap.size]? = some (.cells #[.string NB, .bool true, .bool ab, .slice pa np pc, .int .i64 m.ret.kind, .string RB, .int .i64 m.locals, .slice ia nc ic, .slice ka nk kc] 55 (0, 0))) := hide fun wx hb => (hb.block _ (Sh.lt_of_blk hx0)).trans hx0
  clear hx0
  have hs0 : ((⟨#[102, 117, 110, 99, 116, 105, 111, 110, 32]⟩ : ByteArray) ++ NB ++ ⟨#[32, 40]⟩).size ≤ 60 := by rw [ByteArray.size_append, ByteArray.size_append]; show 9 + NB.size + 2 ≤ 60; omega
  have hs0' : ((⟨#[102, 117, 110, 99, 116, 105, 111, 110, 32]⟩ : ByteArray) ++ NB).size ≤ 40 := by rw [ByteArray.size_append]; show 9 + NB.size ≤ 40; omega
  go_loopw [3, 4] (fun s i wr => ∃ (k : Nat) (S : ByteArray), k ≤ np ∧ i = .int .i64 k ∧ s = .string S ∧ Hid (Below w0.heap.size w0 wr) ∧ Hid (S = ⟨([102, 117, 110, 99, 116, 105, 111, 110, 32] ++ m.name ++ [32, 40] ++ Pp.parT (m.params.take k)).toArray⟩) ∧ S.size ≤ 60 + 40 * k) (fun s i _ => np - (intOf i).toNat)
  case atStart => exact ⟨0, _, Nat.zero_le _, rfl, rfl, hide (Below.refl _ _), hide (by rw [HNB.out, str_app, str_app]; simp [Pp.parT]), by omega⟩
  case round =>
    obtain ⟨k, S, hk, rfl, rfl, HBr, HS, hsz⟩ := hrel
    have q3 := cell_box (HC.out wr HBr.out) 3
    by_cases hlt : k < np
    · obtain ⟨x, hx⟩ : ∃ x, m.params[k]? = some x := ⟨m.params[k]'(by rw [← HNP.out]; exact hlt), List.getElem?_eq_getElem _⟩
      have hokx := HK.out.2.1.2 x (List.mem_of_getElem? hx)
      obtain ⟨g1, o1, eg1, ys1, w1', hc1⟩ := Sh.row_at2 HRp.out hx
      subst eg1
      obtain ⟨rfl, _⟩ := w1'
      have HBw := HB0.out.trans (HBr.out.mono HB0.out.size)
      have r0 := hc1 wr HBw 0 _ rfl
      have r1 := hc1 wr HBw 1 _ rfl
      rw [Nat.add_zero] at r0
      have hT := hide (fun w' => refTypeWords_any x hokx w')
      obtain ⟨TB, hTB⟩ : ∃ q : ByteArray, q = ⟨(Pp.tws x).toArray⟩ := ⟨_, rfl⟩
      have htb : TB.size ≤ 24 := by rw [hTB, str_size]; exact tws_len hokx
      rw [← hTB] at hT
      have HTk : Hid (Pp.parT (m.params.take (k + 1)) = Pp.parT (m.params.take k) ++ (if 0 < k then [32, 44] else []) ++ ([32] ++ Pp.tws x)) := hide (by
        rw [List.take_add_one, hx]
        show Pp.parT (m.params.take k ++ [x]) = _
        rw [Pp.parT_snoc, List.length_take, Nat.min_eq_left (by rw [← HNP.out]; exact hk)])
      have HTB := hide hTB
      have hlt' : (k : Int) < (np : Int) := by omega
      clear hx hokx hc1 HBw hTB
      have z1 : (S ++ ⟨#[32, 44]⟩).size ≤ 62 + 40 * k := by rw [ByteArray.size_append]; show S.size + 2 ≤ _; omega
      have z2 : (S ++ ⟨#[32, 44]⟩ ++ ⟨#[32]⟩).size ≤ 63 + 40 * k := by rw [ByteArray.size_append]; show _ + 1 ≤ _; omega
      have z3 : (S ++ ⟨#[32]⟩).size ≤ 61 + 40 * k := by rw [ByteArray.size_append]; show S.size + 1 ≤ _; omega
      rcases Nat.eq_zero_or_pos k with h0 | h0
      · have HTk0 : Hid (⟨([102, 117, 110, 99, 116, 105, 111, 110, 32] ++ m.name ++ [32, 40] ++ Pp.parT (m.params.take (k + 1))).toArray⟩ = S ++ ⟨#[32]⟩ ++ TB) := hide (by rw [HTk.out, HS.out, HTB.out, if_neg (by omega), str_app, str_app]; simp)
        have h0' : ¬ ((0 : Int) < (k : Int)) := by omega
        clear h0
        go_wp2_with fail
        refine (hT.out _).mono ?_
        rintro e w2 ⟨rfl, hb2⟩
        have HB2 := hide (HBr.out.trans (hb2.mono HBr.out.size))
        clear hb2 hT
        go_wp2_with fail
        go_roundw
        case rel => exact ⟨k + 1, _, by omega, by go_num, rfl, HB2, hide HTk0.out.symm, by rw [ByteArray.size_append]; omega⟩
        case measure => simp [intOf]; omega
      · have HTk0 : Hid (⟨([102, 117, 110, 99, 116, 105, 111, 110, 32] ++ m.name ++ [32, 40] ++ Pp.parT (m.params.take (k + 1))).toArray⟩ = S ++ ⟨#[32, 44]⟩ ++ ⟨#[32]⟩ ++ TB) := hide (by rw [HTk.out, HS.out, HTB.out, if_pos h0, str_app, str_app, str_app]; simp)
        have h0' : (0 : Int) < (k : Int) := by omega
        go_wp2_with fail
        refine (hT.out _).mono ?_
        rintro e w2 ⟨rfl, hb2⟩
        have HB2 := hide (HBr.out.trans (hb2.mono HBr.out.size))
        clear hb2 hT
        go_wp2_with fail
        go_roundw
        case rel => exact ⟨k + 1, _, by omega, by go_num, rfl, HB2, hide HTk0.out.symm, by rw [ByteArray.size_append]; omega⟩
        case measure => simp [intOf]; omega
    · have hkn : k = np := by omega
      subst hkn
      have HS1 : Hid (S = ⟨([102, 117, 110, 99, 116, 105, 111, 110, 32] ++ m.name ++ [32, 40] ++ Pp.parT m.params).toArray⟩) := hide (by rw [HS.out, List.take_of_length_le (by rw [← HNP.out]; exact Nat.le_refl _)])
      have hnl : ¬ ((k : Int) < (k : Int)) := by omega
      clear HS
      have c4 := cell_box (HC.out wr HBr.out) 4
      have c5 := cell_box (HC.out wr HBr.out) 5
      obtain ⟨RT, hRT⟩ : ∃ q : ByteArray, q = ⟨(Pp.tws m.ret).toArray⟩ := ⟨_, rfl⟩
      have hrt : RT.size ≤ 24 := by rw [hRT, str_size]; exact tws_len HK.out.2.2.1
      rw [← hRT] at hW
      have HRT := hide hRT
      clear hRT
      have z1 : (S ++ ⟨#[32, 41, 32]⟩).size ≤ 230 := by rw [ByteArray.size_append]; show S.size + 3 ≤ _; omega
      have z2 : (S ++ ⟨#[32, 41, 32]⟩ ++ RT).size ≤ 260 := by rw [ByteArray.size_append]; omega
      go_wp2_with fail
      refine (hW.out _).mono ?_
      rintro e w2 ⟨rfl, hb2⟩
      have HB2 := hide (HBr.out.trans (hb2.mono HBr.out.size))
      clear hb2 hW c4 c5
      have d2 := cell_box (HC.out w2 HB2.out) 2
      obtain ⟨S2, hS2⟩ : ∃ q, q = S ++ ⟨#[32, 41, 32]⟩ ++ RT := ⟨_, rfl⟩
      have HS2 : Hid (S2 = ⟨(Pp.mthH m.toP).toArray⟩) := hide (by
        rw [hS2, HS1.out, HRT.out, str_app, str_app]
        show _ = (⟨(Pp.mthH ⟨m.name, m.stat, m.abst, m.params, m.ret, m.locals, m.code.map Pp.XIns.toP, m.catches⟩).toArray⟩ : ByteArray)
        rw [HST.out]
        simp [Pp.mthH, Pp.headT])
      rw [← hS2] at z2
      cases ab with
      | true =>
        have hab : m.abst = true := HAB.out.symm
        have HR : Hid ((⟨(Pp.mthT m.toP).toArray⟩ : ByteArray) = S2 ++ ⟨#[32, 59, 10]⟩) := hide (by rw [HS2.out, str_app]; unfold Pp.mthT; rw [if_pos (show m.toP.abst = true from hab)])
        subst hS2
        go_wp2_with fail
        go_ret
        exact ⟨by rw [HR.out]; rfl, HB0.out.trans (HB2.out.mono HB0.out.size)⟩
      | false =>
        have hab : m.toP.abst = false := HAB.out.symm
        obtain ⟨hl, hcode, hcat⟩ : (0 ≤ m.locals ∧ m.locals ≤ 8) ∧ (m.code.length ≤ 48 ∧ ∀ i ∈ m.code, Pp.okIns i.toP) ∧ (m.catches.length ≤ 4 ∧ ∀ c ∈ m.catches, Pp.okCtc c) := by
          rcases HK.out.2.2.2 with ⟨h, _⟩ | ⟨_, h1, ⟨h2, h3⟩, h4, h5⟩
          · rw [hab] at h; cases h
          · exact ⟨h1, ⟨by simpa [Pp.XMth.toP] using h2, fun i hi => h3 _ (List.mem_map_of_mem hi)⟩, h4, h5⟩
        have HCo := hide hcode.2
        have HCa := hide hcat.2
        have hnc : nc ≤ 48 := by rw [HNC.out]; exact hcode.1
        have hnk : nk ≤ 4 := by rw [HNK.out]; exact hcat.1
        have hD := hide (fun w' => Digits_any m.locals (by omega) (by omega) w')
        obtain ⟨LB, hLB⟩ : ∃ q : ByteArray, q = ⟨(Lx.intL m.locals).toArray⟩ := ⟨_, rfl⟩
        have hlb : LB.size ≤ 21 := by rw [hLB, str_size]; exact (Lx.intL_len m.locals).2
        rw [← hLB] at hD
        have HLB := hide hLB
        have d6 := cell_box (HC.out w2 HB2.out) 6
        clear hcode hcat hl hLB
        subst hS2
        have y1 : (S ++ ⟨#[32, 41, 32]⟩ ++ RT ++ ⟨#[32, 108, 111, 99, 97, 108, 115, 32]⟩).size ≤ 270 := by rw [ByteArray.size_append]; show _ + 8 ≤ _; omega
        have y2 : (S ++ ⟨#[32, 41, 32]⟩ ++ RT ++ ⟨#[32, 108, 111, 99, 97, 108, 115, 32]⟩ ++ LB).size ≤ 300 := by rw [ByteArray.size_append]; omega
        have y3 : (S ++ ⟨#[32, 41, 32]⟩ ++ RT ++ ⟨#[32, 108, 111, 99, 97, 108, 115, 32]⟩ ++ LB ++ ⟨#[32, 123, 10]⟩).size ≤ 310 := by rw [ByteArray.size_append]; show _ + 3 ≤ _; omega
        go_wp2_with fail
        refine (hD.out _).mono ?_
        rintro e w3 ⟨rfl, hb3⟩
        have HB3 := hide (HB2.out.trans (hb3.mono HB2.out.size))
        clear hb3 hD d2 d6 HB2
        go_wp2_with fail
        refine (Words_any w3).mono ?_
        rintro e w4 ⟨rfl, hw4, hb4⟩
        have HB4 := hide (HB3.out.trans (hb4.mono HB3.out.size))
        have HW4 := hide hw4
        have hgw : w3.heap.size < w4.heap.size := Sh.lt_of_blk hw4
        generalize w3.heap.size = gW at *
        obtain ⟨PF, hPF⟩ : ∃ q, q = Pp.mthH m.toP ++ Pp.mthB1 m.toP := ⟨_, rfl⟩
        have HPF := hide hPF
        obtain ⟨S3, hS3⟩ : ∃ q, q = S ++ ⟨#[32, 41, 32]⟩ ++ RT ++ ⟨#[32, 108, 111, 99, 97, 108, 115, 32]⟩ ++ LB ++ ⟨#[32, 123, 10]⟩ := ⟨_, rfl⟩
        have HS3 : Hid (S3 = ⟨PF.toArray⟩) := hide (by rw [hS3, HS2.out, HLB.out, hPF, str_app, str_app, str_app]; simp [Pp.mthB1, Pp.XMth.toP])
        rw [← hS3] at y3 ⊢
        clear hw4 hb4 hPF hS3 HB3 y1 y2 HLB hlb hnp HS1 HRT z1 z2 hsz hrt
        go_wp2_with fail
        go_loopw [3, 6] (fun s i wr => ∃ (k : Nat) (S : ByteArray), k ≤ nc ∧ i = .int .i64 k ∧ s = .string S ∧ Hid (Below w4.heap.size w4 wr) ∧ Hid (S = ⟨(PF ++ ((m.code.map Pp.XIns.toP).take k).flatMap Pp.insT).toArray⟩) ∧ S.size ≤ 400 + 80 * k) (fun s i _ => nc - (intOf i).toNat)
        case atStart => exact ⟨0, _, Nat.zero_le _, rfl, rfl, hide (Below.refl _ _), hide (by rw [HS3.out]; simp), by omega⟩
        case round =>
          obtain ⟨k, S, hk, rfl, rfl, HBs, HS, hsz⟩ := hrel
          have HBx := hide (HB4.out.trans (HBs.out.mono HB4.out.size))
          have q7 := cell_box (HC.out wr HBx.out) 7
          by_cases hlt : k < nc
          · obtain ⟨x, hx⟩ : ∃ x, m.code[k]? = some x := ⟨m.code[k]'(by rw [← HNC.out]; exact hlt), List.getElem?_eq_getElem _⟩
            have hokx := HCo.out x (List.mem_of_getElem? hx)
            have hpos := HP.out x (List.mem_of_getElem? hx)
            obtain ⟨g1, o1, eg1, ys1, w1', hc1⟩ := Sh.row_at2 HRc.out hx
            subst eg1
            obtain ⟨op, n, av, bv⟩ := x
            obtain ⟨j, rfl⟩ := Int.eq_ofNat_of_zero_le hpos
            obtain ⟨rfl, _⟩ := w1'
            have HBw := HB0.out.trans (HBx.out.mono HB0.out.size)
            have r0 := hc1 wr HBw 0 _ rfl
            have r1 := hc1 wr HBw 1 _ rfl
            have r2 := hc1 wr HBw 2 _ rfl
            have r3 := hc1 wr HBw 3 _ rfl
            rw [Nat.add_zero] at r0
            have etoP : Pp.XIns.toP ⟨(j : Int), n, av, bv⟩ = ⟨j, n, av, bv⟩ := by simp [Pp.XIns.toP]
            rw [etoP] at hokx
            have hj : j < 44 := hokx.1
            have hj' : (j : Int) < 44 := by omega
            have HTk : Hid (((m.code.map Pp.XIns.toP).take (k + 1)).flatMap Pp.insT = ((m.code.map Pp.XIns.toP).take k).flatMap Pp.insT ++ Pp.insT ⟨j, n, av, bv⟩) := hide (by rw [List.take_add_one, List.getElem?_map, hx]; simp [etoP])
            obtain ⟨WB, hWB⟩ : ∃ q : ByteArray, q = ⟨(Pp.opWords.getD j []).toArray⟩ := ⟨_, rfl⟩
            have hwb : WB.size ≤ 20 := by rw [hWB, str_size]; exact Lx.nameL_len _ (Pp.op_name j hj)
            have hwc : ∀ wx, Below w4.heap.size w4 wx → wx.cell? ⟨gW, j, none⟩ = some (.string WB) := fun wx hb => by
              rw [cell_box ((hb.block gW hgw).trans HW4.out)]
              have hl : j < Pp.opWords.length := hj
              rw [hWB]
              simp [List.getD, hl]
            obtain ⟨AB, hAB⟩ : ∃ q : ByteArray, q = ⟨av.toArray⟩ := ⟨_, rfl⟩
            obtain ⟨BB, hBB⟩ : ∃ q : ByteArray, q = ⟨bv.toArray⟩ := ⟨_, rfl⟩
            rw [← hAB] at r2
            rw [← hBB] at r3
            have HBa := hide (HBs.out.alloc HBs.out.size (.cells #[.int .i64 j, .int .i64 n, .string AB, .string BB] 57))
            have hcb := heap_alloc_new wr (.cells #[.int .i64 j, .int .i64 n, .string AB, .string BB] 57)
            have b0 := cell_box hcb 0
            have b1 := cell_box hcb 1
            have b2 := cell_box hcb 2
            have b3 := cell_box hcb 3
            have bw := hwc _ HBa.out
            have hlt' : (k : Int) < (nc : Int) := by omega
            have z1 : (S ++ WB).size ≤ 420 + 80 * k := by rw [ByteArray.size_append]; omega
            have z2 : (S ++ WB ++ ⟨#[32]⟩).size ≤ 421 + 80 * k := by rw [ByteArray.size_append]; show _ + 1 ≤ _; omega
            clear hx hpos hc1 HBw hwc hcb etoP
            rcases hokx.2 with ⟨e1, a1, a2, -⟩ | ⟨e1, a1, a2, -⟩ | ⟨e1, a1, a2, -⟩ | ⟨e1, -, a1, -⟩ | ⟨e1, -, a1, a2⟩ | ⟨e1, -⟩
            · have hSh := hide (fun w' => Shape_any j hj w')
              have e1 : Pp.shape j = 1 := e1
              rw [e1] at hSh
              dsimp only at a1 a2
              have hD := hide (fun w' => Digits_any n (by omega) (by omega) w')
              obtain ⟨DB, hDB⟩ : ∃ q : ByteArray, q = ⟨(Lx.intL n).toArray⟩ := ⟨_, rfl⟩
              have hdb : DB.size ≤ 21 := by rw [hDB, str_size]; exact (Lx.intL_len n).2
              rw [← hDB] at hD
              have HE : Hid (⟨(PF ++ ((m.code.map Pp.XIns.toP).take (k + 1)).flatMap Pp.insT).toArray⟩ = S ++ WB ++ ⟨#[32]⟩ ++ DB ++ ⟨#[32, 59, 10]⟩) := hide (by rw [HTk.out, HS.out, hWB, hDB]; simp only [Pp.insT, Pp.argT, e1, str_app]; simp)
              have z4 : (S ++ WB ++ ⟨#[32]⟩ ++ DB).size ≤ 442 + 80 * k := by rw [ByteArray.size_append]; omega
              clear hDB a1 a2
              clear hWB hAB hBB e1 HTk
              go_wp2_with fail
              refine (hSh.out _).mono ?_
              rintro e w5 ⟨rfl, hw5⟩
              have hw5' := hw5.symm
              subst hw5'
              clear hSh hw5
              go_wp2_with fail
              refine (hD.out _).mono ?_
              rintro e w6 ⟨rfl, hb6⟩
              have HB6 := hide (HBa.out.trans (hb6.mono HBa.out.size))
              clear hb6 hD
              go_wp2_with fail
              go_roundw
              case rel => exact ⟨k + 1, _, by omega, by go_num, rfl, HB6, hide HE.out.symm, by simp only [ByteArray.size_append] at *; first | omega | (show _ + 3 ≤ _; omega)⟩
              case measure => simp [intOf]; omega
            · have hSh := hide (fun w' => Shape_any j hj w')
              have e1 : Pp.shape j = 2 := e1
              rw [e1] at hSh
              dsimp only at a1 a2
              have hD := hide (fun w' => Digits_any n (by omega) (by omega) w')
              obtain ⟨DB, hDB⟩ : ∃ q : ByteArray, q = ⟨(Lx.intL n).toArray⟩ := ⟨_, rfl⟩
              have hdb : DB.size ≤ 21 := by rw [hDB, str_size]; exact (Lx.intL_len n).2
              rw [← hDB] at hD
              have HE : Hid (⟨(PF ++ ((m.code.map Pp.XIns.toP).take (k + 1)).flatMap Pp.insT).toArray⟩ = S ++ WB ++ ⟨#[32]⟩ ++ DB ++ ⟨#[32, 59, 10]⟩) := hide (by rw [HTk.out, HS.out, hWB, hDB]; simp only [Pp.insT, Pp.argT, e1, str_app]; simp)
              have z4 : (S ++ WB ++ ⟨#[32]⟩ ++ DB).size ≤ 442 + 80 * k := by rw [ByteArray.size_append]; omega
              clear hDB a1 a2
              clear hWB hAB hBB e1 HTk
              go_wp2_with fail
              refine (hSh.out _).mono ?_
              rintro e w5 ⟨rfl, hw5⟩
              have hw5' := hw5.symm
              subst hw5'
              clear hSh hw5
              go_wp2_with fail
              refine (hD.out _).mono ?_
              rintro e w6 ⟨rfl, hb6⟩
              have HB6 := hide (HBa.out.trans (hb6.mono HBa.out.size))
              clear hb6 hD
              go_wp2_with fail
              go_roundw
              case rel => exact ⟨k + 1, _, by omega, by go_num, rfl, HB6, hide HE.out.symm, by simp only [ByteArray.size_append] at *; first | omega | (show _ + 3 ≤ _; omega)⟩
              case measure => simp [intOf]; omega
            · have hSh := hide (fun w' => Shape_any j hj w')
              have e1 : Pp.shape j = 3 := e1
              rw [e1] at hSh
              dsimp only at a1 a2
              have hD := hide (fun w' => Digits_any n (by omega) (by omega) w')
              obtain ⟨DB, hDB⟩ : ∃ q : ByteArray, q = ⟨(Lx.intL n).toArray⟩ := ⟨_, rfl⟩
              have hdb : DB.size ≤ 21 := by rw [hDB, str_size]; exact (Lx.intL_len n).2
              rw [← hDB] at hD
              have HE : Hid (⟨(PF ++ ((m.code.map Pp.XIns.toP).take (k + 1)).flatMap Pp.insT).toArray⟩ = S ++ WB ++ ⟨#[32]⟩ ++ DB ++ ⟨#[32, 59, 10]⟩) := hide (by rw [HTk.out, HS.out, hWB, hDB]; simp only [Pp.insT, Pp.argT, e1, str_app]; simp)
              have z4 : (S ++ WB ++ ⟨#[32]⟩ ++ DB).size ≤ 442 + 80 * k := by rw [ByteArray.size_append]; omega
              clear hDB a1 a2
              clear hWB hAB hBB e1 HTk
              go_wp2_with fail
              refine (hSh.out _).mono ?_
              rintro e w5 ⟨rfl, hw5⟩
              have hw5' := hw5.symm
              subst hw5'
              clear hSh hw5
              go_wp2_with fail
              refine (hD.out _).mono ?_
              rintro e w6 ⟨rfl, hb6⟩
              have HB6 := hide (HBa.out.trans (hb6.mono HBa.out.size))
              clear hb6 hD
              go_wp2_with fail
              go_roundw
              case rel => exact ⟨k + 1, _, by omega, by go_num, rfl, HB6, hide HE.out.symm, by simp only [ByteArray.size_append] at *; first | omega | (show _ + 3 ≤ _; omega)⟩
              case measure => simp [intOf]; omega
            · have hSh := hide (fun w' => Shape_any j hj w')
              have e1 : Pp.shape j = 4 := e1
              rw [e1] at hSh
              have hab : AB.size ≤ 20 := by rw [hAB, str_size]; exact Lx.nameL_len _ a1.1
              have HE : Hid (⟨(PF ++ ((m.code.map Pp.XIns.toP).take (k + 1)).flatMap Pp.insT).toArray⟩ = S ++ WB ++ ⟨#[32]⟩ ++ AB ++ ⟨#[32, 59, 10]⟩) := hide (by rw [HTk.out, HS.out, hWB, hAB]; simp only [Pp.insT, Pp.argT, e1, str_app]; simp)
              have z4 : (S ++ WB ++ ⟨#[32]⟩ ++ AB).size ≤ 442 + 80 * k := by rw [ByteArray.size_append]; omega
              clear a1
              clear hWB hAB hBB e1 HTk
              go_wp2_with fail
              refine (hSh.out _).mono ?_
              rintro e w5 ⟨rfl, hw5⟩
              have hw5' := hw5.symm
              subst hw5'
              clear hSh hw5
              go_wp2_with fail
              go_roundw
              case rel => exact ⟨k + 1, _, by omega, by go_num, rfl, HBa, hide HE.out.symm, by simp only [ByteArray.size_append] at *; first | omega | (show _ + 3 ≤ _; omega)⟩
              case measure => simp [intOf]; omega
            · have hSh := hide (fun w' => Shape_any j hj w')
              have e1 : Pp.shape j = 5 := e1
              rw [e1] at hSh
              have hab : AB.size ≤ 20 := by rw [hAB, str_size]; exact Lx.nameL_len _ a1.1
              have hbb : BB.size ≤ 20 := by rw [hBB, str_size]; exact Lx.nameL_len _ a2.1
              have HE : Hid (⟨(PF ++ ((m.code.map Pp.XIns.toP).take (k + 1)).flatMap Pp.insT).toArray⟩ = S ++ WB ++ ⟨#[32]⟩ ++ AB ++ ⟨#[32]⟩ ++ BB ++ ⟨#[32, 59, 10]⟩) := hide (by rw [HTk.out, HS.out, hWB, hAB, hBB]; simp only [Pp.insT, Pp.argT, e1, str_app]; simp)
              have z4 : (S ++ WB ++ ⟨#[32]⟩ ++ AB).size ≤ 441 + 80 * k := by rw [ByteArray.size_append]; omega
              have z5 : (S ++ WB ++ ⟨#[32]⟩ ++ AB ++ ⟨#[32]⟩).size ≤ 442 + 80 * k := by rw [ByteArray.size_append]; show _ + 1 ≤ _; omega
              have z6 : (S ++ WB ++ ⟨#[32]⟩ ++ AB ++ ⟨#[32]⟩ ++ BB).size ≤ 462 + 80 * k := by rw [ByteArray.size_append]; omega
              clear a1 a2
              clear hWB hAB hBB e1 HTk
              go_wp2_with fail
              refine (hSh.out _).mono ?_
              rintro e w5 ⟨rfl, hw5⟩
              have hw5' := hw5.symm
              subst hw5'
              clear hSh hw5
              go_wp2_with fail
              go_roundw
              case rel => exact ⟨k + 1, _, by omega, by go_num, rfl, HBa, hide HE.out.symm, by simp only [ByteArray.size_append] at *; first | omega | (show _ + 3 ≤ _; omega)⟩
              case measure => simp [intOf]; omega
            · have hSh := hide (fun w' => Shape_any j hj w')
              have e1 : Pp.shape j = 0 := e1
              rw [e1] at hSh
              have HE : Hid (⟨(PF ++ ((m.code.map Pp.XIns.toP).take (k + 1)).flatMap Pp.insT).toArray⟩ = S ++ WB ++ ⟨#[32, 59, 10]⟩) := hide (by rw [HTk.out, HS.out, hWB]; simp only [Pp.insT, Pp.argT, e1, str_app]; simp)
              clear hWB hAB hBB e1 HTk
              go_wp2_with fail
              refine (hSh.out _).mono ?_
              rintro e w5 ⟨rfl, hw5⟩
              have hw5' := hw5.symm
              subst hw5'
              clear hSh hw5
              go_wp2_with fail
              go_roundw
              case rel => exact ⟨k + 1, _, by omega, by go_num, rfl, HBa, hide HE.out.symm, by simp only [ByteArray.size_append] at *; first | omega | (show _ + 3 ≤ _; omega)⟩
              case measure => simp [intOf]; omega

          · have hkn : k = nc := by omega
            subst hkn
            have HS1 : Hid (S = ⟨(PF ++ (m.code.map Pp.XIns.toP).flatMap Pp.insT).toArray⟩) := hide (by rw [HS.out, List.take_of_length_le (by rw [List.length_map, ← HNC.out]; exact Nat.le_refl _)])
            have hnl : ¬ ((k : Int) < (k : Int)) := by omega
            clear HS
            obtain ⟨wB, rfl⟩ : ∃ q, q = wr := ⟨_, rfl⟩
            have q8 := cell_box (HC.out wB HBx.out) 8
            obtain ⟨PG, hPG⟩ : ∃ q, q = PF ++ (m.code.map Pp.XIns.toP).flatMap Pp.insT := ⟨_, rfl⟩
            have HPG := hide hPG
            rw [← hPG] at HS1
            clear hPG
            obtain ⟨N, hN⟩ : ∃ N, N = 400 + 80 * k := ⟨_, rfl⟩
            have hN4 : N ≤ 4300 := by omega
            rw [← hN] at hsz
            clear hN
            go_wp2_with fail
            go_loopw [3, 8] (fun s i wr => ∃ (q : Nat) (S : ByteArray), q ≤ nk ∧ i = .int .i64 q ∧ s = .string S ∧ Hid (Below wB.heap.size wB wr) ∧ Hid (S = ⟨(PG ++ (m.catches.take q).flatMap Pp.ctcT).toArray⟩) ∧ S.size ≤ N + 120 * q) (fun s i _ => nk - (intOf i).toNat)
            case atStart => exact ⟨0, _, Nat.zero_le _, rfl, rfl, hide (Below.refl _ _), hide (by rw [HS1.out]; simp), by omega⟩
            case round =>
              obtain ⟨q, S4, hq, rfl, rfl, HBt, HS4, hsz4⟩ := hrel
              have HBy := hide (HBx.out.trans (HBt.out.mono HBx.out.size))
              have q9 := cell_box (HC.out wr HBy.out) 8
              clear q7 q8
              by_cases hlt4 : q < nk
              · obtain ⟨x, hx⟩ : ∃ x, m.catches[q]? = some x := ⟨m.catches[q]'(by rw [← HNK.out]; exact hlt4), List.getElem?_eq_getElem _⟩
                obtain ⟨hok1, hok2, hok3, hok4⟩ := HCa.out x (List.mem_of_getElem? hx)
                obtain ⟨g1, o1, eg1, ys1, w1', hc1⟩ := Sh.row_at2 HRk.out hx
                subst eg1
                obtain ⟨cn, lo, hi, pc4⟩ := x
                obtain ⟨rfl, _⟩ := w1'
                have HBw := HB0.out.trans (HBy.out.mono HB0.out.size)
                have r0 := hc1 wr HBw 0 _ rfl
                have r1 := hc1 wr HBw 1 _ rfl
                have r2 := hc1 wr HBw 2 _ rfl
                have r3 := hc1 wr HBw 3 _ rfl
                rw [Nat.add_zero] at r0
                dsimp only at hok1 hok2 hok3 hok4 r0 r1 r2 r3
                obtain ⟨D1, hd1⟩ : ∃ q : ByteArray, q = ⟨(Lx.intL lo).toArray⟩ := ⟨_, rfl⟩
                obtain ⟨D2, hd2⟩ : ∃ q : ByteArray, q = ⟨(Lx.intL hi).toArray⟩ := ⟨_, rfl⟩
                obtain ⟨D3, hd3⟩ : ∃ q : ByteArray, q = ⟨(Lx.intL pc4).toArray⟩ := ⟨_, rfl⟩
                obtain ⟨CB, hcb⟩ : ∃ q : ByteArray, q = ⟨cn.toArray⟩ := ⟨_, rfl⟩
                have s1 : D1.size ≤ 21 := by rw [hd1, str_size]; exact (Lx.intL_len lo).2
                have s2 : D2.size ≤ 21 := by rw [hd2, str_size]; exact (Lx.intL_len hi).2
                have s3 : D3.size ≤ 21 := by rw [hd3, str_size]; exact (Lx.intL_len pc4).2
                have s4 : CB.size ≤ 20 := by rw [hcb, str_size]; exact Lx.nameL_len _ hok1.1
                have E1 := hide hd1.symm
                have E2 := hide hd2.symm
                have E3 := hide hd3.symm
                rw [← hcb] at r0
                have HTk : Hid (⟨(PG ++ (m.catches.take (q + 1)).flatMap Pp.ctcT).toArray⟩ = S4 ++ ⟨#[99, 97, 116, 99, 104, 32]⟩ ++ CB ++ ⟨#[32]⟩ ++ D1 ++ ⟨#[32]⟩ ++ D2 ++ ⟨#[32]⟩ ++ D3 ++ ⟨#[32, 59, 10]⟩) := hide (by
                  rw [List.take_add_one, hx, HS4.out, hd1, hd2, hd3, hcb]
                  simp [Pp.ctcT, str_app])
                have hlt4' : (q : Int) < (nk : Int) := by omega
                have hcb0 := heap_alloc_new wr (.cells #[.string CB, .int .i64 lo, .int .i64 hi, .int .i64 pc4] 59)
                have HBa := hide ((Below.refl wr.heap.size wr).alloc (Nat.le_refl _) (.cells #[.string CB, .int .i64 lo, .int .i64 hi, .int .i64 pc4] 59))
                clear hx hc1 HBw hok1 hd1 hd2 hd3 hcb q9
                have q9 := cell_box (HC.out wr HBy.out) 8
                go_wp2_with fail
                clear r0 r1 r2 r3 q9
                generalize wr.alloc (.cells #[.string CB, .int .i64 lo, .int .i64 hi, .int .i64 pc4] 59) = wa at *
                have hK : Hid (∀ wx, Below wa.heap.size wa wx → wx.cell? ⟨wr.heap.size, 0, none⟩ = some (.string CB) ∧ wx.cell? ⟨wr.heap.size, 1, none⟩ = some (.int .i64 lo) ∧ wx.cell? ⟨wr.heap.size, 2, none⟩ = some (.int .i64 hi) ∧ wx.cell? ⟨wr.heap.size, 3, none⟩ = some (.int .i64 pc4)) := hide fun wx hb => by
                  have := (hb.block _ (Sh.lt_of_blk hcb0)).trans hcb0
                  exact ⟨cell_box this 0, cell_box this 1, cell_box this 2, cell_box this 3⟩
                have HBz : Hid (Below wa.heap.size wa wa.drew) := hide (Below.drew (Below.refl _ _))
                clear hcb0
                have f0 : ¬ 9223372036854775801 < S4.size := by omega
                have g0 : ¬ 9223372036854775807 < S4.size + 6 := by omega
                have h0 : S4.size ≤ 9223372036854775801 := by omega
                have i0 : S4.size + 6 ≤ 9223372036854775807 := by omega
                have f1 : ¬ 9223372036854775807 < S4.size + 6 + CB.size := by omega
                have f2 : ¬ 9223372036854775806 < S4.size + 6 + CB.size := by omega
                have g2 : ¬ 9223372036854775807 < S4.size + 6 + CB.size + 1 := by omega
                have h2 : S4.size + 6 + CB.size ≤ 9223372036854775806 := by omega
                have i2 : S4.size + 6 + CB.size + 1 ≤ 9223372036854775807 := by omega
                have f3 : ¬ 9223372036854775807 < S4.size + 6 + CB.size + 1 + D1.size := by omega
                have f4 : ¬ 9223372036854775806 < S4.size + 6 + CB.size + 1 + D1.size := by omega
                have g4 : ¬ 9223372036854775807 < S4.size + 6 + CB.size + 1 + D1.size + 1 := by omega
                have h4 : S4.size + 6 + CB.size + 1 + D1.size ≤ 9223372036854775806 := by omega
                have i4 : S4.size + 6 + CB.size + 1 + D1.size + 1 ≤ 9223372036854775807 := by omega
                have f5 : ¬ 9223372036854775807 < S4.size + 6 + CB.size + 1 + D1.size + 1 + D2.size := by omega
                have f6 : ¬ 9223372036854775806 < S4.size + 6 + CB.size + 1 + D1.size + 1 + D2.size := by omega
                have g6 : ¬ 9223372036854775807 < S4.size + 6 + CB.size + 1 + D1.size + 1 + D2.size + 1 := by omega
                have h6 : S4.size + 6 + CB.size + 1 + D1.size + 1 + D2.size ≤ 9223372036854775806 := by omega
                have i6 : S4.size + 6 + CB.size + 1 + D1.size + 1 + D2.size + 1 ≤ 9223372036854775807 := by omega
                have f7 : ¬ 9223372036854775807 < S4.size + 6 + CB.size + 1 + D1.size + 1 + D2.size + 1 + D3.size := by omega
                have f8 : ¬ 9223372036854775804 < S4.size + 6 + CB.size + 1 + D1.size + 1 + D2.size + 1 + D3.size := by omega
                have g8 : ¬ 9223372036854775807 < S4.size + 6 + CB.size + 1 + D1.size + 1 + D2.size + 1 + D3.size + 3 := by omega
                have h8 : S4.size + 6 + CB.size + 1 + D1.size + 1 + D2.size + 1 + D3.size ≤ 9223372036854775804 := by omega
                have i8 : S4.size + 6 + CB.size + 1 + D1.size + 1 + D2.size + 1 + D3.size + 3 ≤ 9223372036854775807 := by omega
                go_region_held3 (fun wx => wx.cell? ⟨wr.heap.size, 0, none⟩ = some (.string CB) ∧ wx.cell? ⟨wr.heap.size, 1, none⟩ = some (.int .i64 lo) ∧ wx.cell? ⟨wr.heap.size, 2, none⟩ = some (.int .i64 hi) ∧ wx.cell? ⟨wr.heap.size, 3, none⟩ = some (.int .i64 pc4)) (exact hK.out _ HBz.out)
                  (first
                    | (go_at_call 53
                       refine (Digits_any _ (by omega) (by omega) _).mono ?_
                       rintro e w6 ⟨rfl, hb6⟩
                       have HBz := hide (HBz.out.trans (hb6.mono HBz.out.size))
                       clear hb6
                       first | rw [E1.out] | rw [E2.out] | rw [E3.out])
                    | fail)
                all_goals go_wp2_with fail
                all_goals go_roundw
                case rel => exact ⟨q + 1, _, by omega, by go_num, rfl, hide ((HBt.out.trans (HBa.out.mono HBt.out.size)).trans (HBz.out.mono (HBt.out.trans (HBa.out.mono HBt.out.size)).size)), hide HTk.out.symm, by simp only [ByteArray.size_append]; show S4.size + 6 + CB.size + 1 + D1.size + 1 + D2.size + 1 + D3.size + 3 ≤ _; omega⟩
                case measure => simp [intOf]; omega
              · have hqn : q = nk := by omega
                subst hqn
                have HS5 : Hid (⟨(Pp.mthT m.toP).toArray⟩ = S4 ++ ⟨#[125, 10]⟩) := hide (by
                  rw [HS4.out, List.take_of_length_le (by rw [← HNK.out]; exact Nat.le_refl _), str_app, HPG.out, HPF.out]
                  unfold Pp.mthT
                  rw [if_neg (by rw [hab]; exact Bool.false_ne_true)]
                  rfl)
                have hnl4 : ¬ ((q : Int) < (q : Int)) := by omega
                go_wp2_with fail
                go_ret
                exact ⟨by rw [HS5.out]; rfl, HB0.out.trans (HBy.out.mono HB0.out.size)⟩

end Go.Proofs.YtdgfidaopkcjoaaDoor

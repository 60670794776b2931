/- What the page's Text answers: the text of the words. -/
import Derived.Test.YtdgfidaopkcjoaaDoorMText
import Derived.Test.YtdgfidaopkcjoaaDoorShownD
import Derived.Deep.RegionHeld3
namespace Go.Proofs.YtdgfidaopkcjoaaDoor
open Go.RowKit
set_option linter.unusedVariables false
set_option linter.unusedSimpArgs false

set_option maxRecDepth 100000 in
set_option maxHeartbeats 32000000 in
theorem refText_any (cs : List Pp.XCls) (v : Value) (w : World) (h : ProgX w v cs) (hb : Pp.progB cs = true) :
    Calls Tryd.prog 16 #[.agg #[v]] w fun e w' => e = .returned (.string ⟨(Pp.textX cs).toArray⟩) ∧ Below w.heap.size w w' := by
  obtain ⟨hpos, hok⟩ := (Pp.progB_iff cs).1 hb
  have HPos := hide hpos
  have HOk : Hid (∀ c ∈ cs, Pp.okCls c.toP) := hide fun c hc => hok.2 _ (List.mem_map_of_mem hc)
  have hn10 : cs.length ≤ 10 := by have := hok.1; rw [List.length_map] at this; exact this
  rw [Pp.textX_page hb]
  have HR := hide h.1
  obtain ⟨pa, pc, rfl, _⟩ := h.1.len
  obtain ⟨n, hn⟩ : ∃ q, q = cs.length := ⟨_, rfl⟩
  have HN := hide hn
  rw [← hn] at HR hn10 ⊢
  clear h hb hpos hok hn
  obtain ⟨TX, hTX⟩ : ∃ q, q = (cs.map Pp.XCls.toP).flatMap Pp.clsT := ⟨_, rfl⟩
  have HTX := hide hTX
  rw [← hTX]
  clear hTX
  have hx0 := heap_alloc_new w (.cells #[.slice pa n pc] 24)
  have HB0 := hide ((Below.refl w.heap.size w).alloc (Nat.le_refl _) (.cells #[.slice pa n pc] 24))
  go_enter Tryd.func16, Tryd.ntmps16
  go_wp2_with fail
  generalize w.alloc (.cells #[.slice pa n pc] 24) = w0 at *
  have HC0 : Hid (∀ wx, Below w0.heap.size w0 wx → wx.heap[w.heap.size]? = some (.cells #[.slice pa n pc] 24 (0, 0))) := hide fun wx hb => (hb.block _ (Sh.lt_of_blk hx0)).trans hx0
  clear hx0
  go_loopw [3, 4] (fun s i wr => ∃ (k : Nat) (S : ByteArray), k ≤ n ∧ i = .int .i64 k ∧ s = .string S ∧ Hid (Below w0.heap.size w0 wr) ∧ Hid (S = ⟨(((cs.map Pp.XCls.toP).take k).flatMap Pp.clsT).toArray⟩) ∧ S.size ≤ 30000 * k) (fun s i _ => n - (intOf i).toNat)
  case atStart => exact ⟨0, _, Nat.zero_le _, rfl, rfl, hide (Below.refl _ _), hide (by simp), by decide⟩
  case round =>
  obtain ⟨k, S, hk, rfl, rfl, HBr, HS, hsz⟩ := hrel
  have p0 := cell_box (HC0.out wr HBr.out) 0
  by_cases hlt : k < n
  · obtain ⟨x, hx⟩ : ∃ x, cs[k]? = some x := ⟨cs[k]'(by rw [← HN.out]; exact hlt), List.getElem?_eq_getElem _⟩
    have hokx := HOk.out x (List.mem_of_getElem? hx)
    have HPosx := hide (HPos.out x (List.mem_of_getElem? hx))
    have HOkx := hide hokx
    obtain ⟨g, o, eg, ys, wx1, hc⟩ := Sh.row_at2 HR.out hx
    subst eg
    have HBk0 := hide HB0.out
    have HBw := HB0.out.trans (HBr.out.mono HB0.out.size)
    obtain ⟨vi, vf, vm, rfl, x1, x2, x3, _⟩ := wx1
    have HRi := hide x1
    have HRf := hide x2
    have HRm := hide x3
    obtain ⟨ia, ic, rfl, _⟩ := x1.len
    obtain ⟨fa, fc, rfl, _⟩ := x2.len
    obtain ⟨ma, mc, rfl, _⟩ := x3.len
    have r0 := hc wr HBw 0 _ rfl
    have r1 := hc wr HBw 1 _ rfl
    have r2 := hc wr HBw 2 _ rfl
    have r3 := hc wr HBw 3 _ rfl
    have r4 := hc wr HBw 4 _ rfl
    have r5 := hc wr HBw 5 _ rfl
    rw [Nat.add_zero] at r0
    obtain ⟨ni, hni⟩ : ∃ q, q = x.ifaces.length := ⟨_, rfl⟩
    obtain ⟨nf, hnf⟩ : ∃ q, q = x.fields.length := ⟨_, rfl⟩
    obtain ⟨nm, hnm⟩ : ∃ q, q = x.methods.length := ⟨_, rfl⟩
    have HNi := hide hni
    have HNf := hide hnf
    have HNm := hide hnm
    have hni4 : ni ≤ 4 := by rw [hni]; exact hokx.2.2.1.1
    have hnf6 : nf ≤ 6 := by rw [hnf]; exact hokx.2.2.2.1.1
    have hnm6 : nm ≤ 6 := by rw [hnm]; have := hokx.2.2.2.2.1; simpa [Pp.XCls.toP] using this
    rw [← hni] at r3 HRi
    rw [← hnf] at r4 HRf
    rw [← hnm] at r5 HRm
    obtain ⟨NB, hNB⟩ : ∃ q : ByteArray, q = ⟨x.name.toArray⟩ := ⟨_, rfl⟩
    have hnb : NB.size ≤ 20 := by rw [hNB, str_size]; exact Lx.nameL_len _ hokx.1.1
    rw [← hNB] at r0
    have HTx : Hid (((cs.map Pp.XCls.toP).take (k + 1)).flatMap Pp.clsT = ((cs.map Pp.XCls.toP).take k).flatMap Pp.clsT ++ Pp.clsT x.toP) := hide (by rw [List.take_add_one, List.getElem?_map, hx]; simp)
    obtain ⟨ACC, hACC⟩ : ∃ q, q = ((cs.map Pp.XCls.toP).take k).flatMap Pp.clsT := ⟨_, rfl⟩
    rw [← hACC] at HTx HS
    obtain ⟨HD, hHD⟩ : ∃ q, q = Pp.clsH x.toP := ⟨_, rfl⟩
    have HHD := hide hHD
    have hlt' : (k : Int) < (n : Int) := by omega
    clear hx hc HBw x1 x2 x3 hni hnf hnm hACC
    by_cases hsup : x.super = []
    · clear hokx
      cases hic : x.iface with
      | false =>
        have HEh : Hid (⟨(ACC ++ HD).toArray⟩ = S ++ ⟨#[99, 108, 97, 115, 115, 32]⟩ ++ NB) := hide (by
          rw [hHD, HS.out, hNB]
          unfold Pp.clsH
          rw [show x.toP.iface = false from hic, show x.toP.name = x.name from rfl, show x.toP.super = x.super from rfl, if_pos hsup]
          simp [str_app])
        have HIC : Hid (x.iface = false) := hide hic
        rw [hsup] at r2
        rw [hic] at r1
        have hcc := heap_alloc_new wr (.cells #[.string NB, .bool false, .string ⟨#[]⟩, .slice ia ni ic, .slice fa nf fc, .slice ma nm mc] 48)
        have HBc := hide ((Below.refl wr.heap.size wr).alloc (Nat.le_refl _) (.cells #[.string NB, .bool false, .string ⟨#[]⟩, .slice ia ni ic, .slice fa nf fc, .slice ma nm mc] 48))
        have b0 := cell_box hcc 0
        have b1 := cell_box hcc 1
        have b2 := cell_box hcc 2
        have b3 := cell_box hcc 3
        clear hHD HS hNB  hic hsup
        go_wp2_with fail
        clear r0 r1 r2 r3 r4 r5 b0 b1 b2 b3
        generalize wr.alloc (.cells #[.string NB, .bool false, .string ⟨#[]⟩, .slice ia ni ic, .slice fa nf fc, .slice ma nm mc] 48) = wc at *
        have HC : Hid (∀ wx, Below wc.heap.size wc wx → wx.heap[wr.heap.size]? = some (.cells #[.string NB, .bool false, .string ⟨#[]⟩, .slice ia ni ic, .slice fa nf fc, .slice ma nm mc] 48 (0, 0))) := hide fun wx hb => (hb.block _ (Sh.lt_of_blk hcc)).trans hcc
        clear hcc
        have HBk := hide (HBr.out.trans (HBc.out.mono HBr.out.size))
        generalize wr.heap.size = bx at HC ⊢
        obtain ⟨wB, rfl⟩ : ∃ q, q = wr := ⟨_, rfl⟩
        go_loopw [3, 6] (fun s i wr => ∃ (a : Nat) (S1 : ByteArray), a ≤ ni ∧ i = .int .i64 a ∧ s = .string S1 ∧ Hid (Below wc.heap.size wc wr) ∧ Hid (S1 = ⟨(ACC ++ HD ++ Pp.ifsT false (x.ifaces.take a)).toArray⟩) ∧ S1.size ≤ 30000 * k + 100 + 40 * a) (fun s i _ => ni - (intOf i).toNat)
        case atStart => exact ⟨0, _, Nat.zero_le _, rfl, rfl, hide (Below.refl _ _), hide (by rw [← HEh.out]; simp [Pp.ifsT]), by simp only [ByteArray.size_append]; show S.size + 6 + NB.size ≤ _; omega⟩
        case round =>
          obtain ⟨a, S1, ha, rfl, rfl, HBr1, HS1, hz1⟩ := hrel
          have q3 := cell_box (HC.out wr HBr1.out) 3
          have q1 := cell_box (HC.out wr HBr1.out) 1
          by_cases hlt1 : a < ni
          · obtain ⟨y, hy⟩ : ∃ y, x.ifaces[a]? = some y := ⟨x.ifaces[a]'(by rw [← HNi.out]; exact hlt1), List.getElem?_eq_getElem _⟩
            have hoky := HOkx.out.2.2.1.2 y (List.mem_of_getElem? hy)
            obtain ⟨g1, o1, eg1, ys1, wy, hc1⟩ := Sh.row_at2 HRi.out hy
            subst eg1
            obtain ⟨rfl, _⟩ := wy
            have r0 := hc1 wr (HBk0.out.trans ((HBk.out.trans (HBr1.out.mono HBk.out.size)).mono HBk0.out.size)) 0 _ rfl
            rw [Nat.add_zero, Nat.mul_one] at r0
            obtain ⟨YB, hYB⟩ : ∃ q : ByteArray, q = ⟨y.toArray⟩ := ⟨_, rfl⟩
            have hyb : YB.size ≤ 20 := by rw [hYB, str_size]; exact Lx.nameL_len _ hoky.1
            rw [← hYB] at r0
            have HTk : Hid (Pp.ifsT false (x.ifaces.take (a + 1)) = Pp.ifsT false (x.ifaces.take a) ++ ((if 0 < a then [32, 44, 32] else Pp.ifsH false) ++ y)) := hide (by
              rw [List.take_add_one, hy]
              show Pp.ifsT false (x.ifaces.take a ++ [y]) = _
              rw [Pp.ifsT_snoc, List.length_take, Nat.min_eq_left (by rw [← HNi.out]; exact ha)])
            have hlt1' : (a : Int) < (ni : Int) := by omega
            clear hy hoky hc1
            rcases Nat.eq_zero_or_pos a with h0 | h0
            · have HTk0 : Hid (⟨(ACC ++ HD ++ Pp.ifsT false (x.ifaces.take (a + 1))).toArray⟩ = S1 ++ ⟨#[32, 105, 109, 112, 108, 101, 109, 101, 110, 116, 115, 32]⟩ ++ YB) := hide (by rw [HTk.out, HS1.out, hYB, if_neg (by omega), str_app, str_app]; simp [Pp.ifsH])
              have h0' : ¬ ((0 : Int) < (a : Int)) := by omega
              clear h0 hYB
              go_wp2_with fail
              go_roundw
              case rel => exact ⟨a + 1, _, by omega, by go_num, rfl, HBr1, hide HTk0.out.symm, by simp only [ByteArray.size_append]; show S1.size + 12 + YB.size ≤ _; omega⟩
              case measure => simp [intOf]; omega
            · have HTk0 : Hid (⟨(ACC ++ HD ++ Pp.ifsT false (x.ifaces.take (a + 1))).toArray⟩ = S1 ++ ⟨#[32, 44, 32]⟩ ++ YB) := hide (by rw [HTk.out, HS1.out, hYB, if_pos h0, str_app, str_app]; simp [Pp.ifsH])
              have h0' : ((0 : Int) < (a : Int)) := by omega
              clear h0 hYB
              go_wp2_with fail
              go_roundw
              case rel => exact ⟨a + 1, _, by omega, by go_num, rfl, HBr1, hide HTk0.out.symm, by simp only [ByteArray.size_append]; show S1.size + 3 + YB.size ≤ _; omega⟩
              case measure => simp [intOf]; omega
          · have han : a = ni := by omega
            subst han
            obtain ⟨PA, hPA⟩ : ∃ q, q = ACC ++ HD ++ Pp.ifsT false x.ifaces ++ [32, 123, 10] := ⟨_, rfl⟩
            have HPA := hide hPA
            have HS1e : Hid (⟨PA.toArray⟩ = S1 ++ ⟨#[32, 123, 10]⟩) := hide (by rw [hPA, HS1.out, List.take_of_length_le (by rw [← HNi.out]; exact Nat.le_refl _), str_app])
            have hnl : ¬ ((a : Int) < (a : Int)) := by omega
            have hz1' : S1.size ≤ 30000 * k + 300 := by omega
            have q4 := cell_box (HC.out wr HBr1.out) 4
            clear HS1 hPA hz1
            go_wp2_with fail
            obtain ⟨wI, rfl⟩ : ∃ q, q = wr := ⟨_, rfl⟩
            clear q1 q3 q4
            go_loopw [3, 7] (fun s i wr => ∃ (b : Nat) (S2 : ByteArray), b ≤ nf ∧ i = .int .i64 b ∧ s = .string S2 ∧ Hid (Below wc.heap.size wc wr) ∧ Hid (S2 = ⟨(PA ++ (x.fields.take b).flatMap Pp.fldT).toArray⟩) ∧ S2.size ≤ 30000 * k + 310 + 80 * b) (fun s i _ => nf - (intOf i).toNat)
            case atStart => exact ⟨0, _, Nat.zero_le _, rfl, rfl, HBr1, hide (by rw [← HS1e.out]; simp), by simp only [ByteArray.size_append]; show S1.size + 3 ≤ _; omega⟩
            case round =>
            obtain ⟨b, S2, hb2, rfl, rfl, HBr2, HS2, hz2⟩ := hrel
            have HBw2 := hide (HBk0.out.trans ((HBk.out.trans (HBr2.out.mono HBk.out.size)).mono HBk0.out.size))
            by_cases hltf : b < nf
            · obtain ⟨f, hx2⟩ : ∃ f, x.fields[b]? = some f := ⟨x.fields[b]'(by rw [← HNf.out]; exact hltf), List.getElem?_eq_getElem _⟩
              have hokf := HOkx.out.2.2.2.1.2 f (List.mem_of_getElem? hx2)
              obtain ⟨g2, o2, eg2, ys2, wf, hc2⟩ := Sh.row_at2 HRf.out hx2
              subst eg2
              obtain ⟨fnm, ⟨fk, ftn⟩, fst⟩ := f
              obtain ⟨rfl, _⟩ := wf
              have hTW := hide (fun w' => refTypeWords_any ⟨fk, ftn⟩ hokf.2 w')
              obtain ⟨TB, hTB⟩ : ∃ q : ByteArray, q = ⟨(Pp.tws ⟨fk, ftn⟩).toArray⟩ := ⟨_, rfl⟩
              obtain ⟨FB, hFB⟩ : ∃ q : ByteArray, q = ⟨fnm.toArray⟩ := ⟨_, rfl⟩
              have htb : TB.size ≤ 24 := by rw [hTB, str_size]; exact tws_len hokf.2
              have hfb : FB.size ≤ 20 := by rw [hFB, str_size]; exact Lx.nameL_len _ hokf.1.1
              rw [← hTB] at hTW
              dsimp only at hTW
              clear hokf
              cases fst with
              | true =>
              have HTk : Hid (⟨(PA ++ (x.fields.take (b + 1)).flatMap Pp.fldT).toArray⟩ = S2 ++ ⟨#[115, 116, 97, 116, 105, 99, 32]⟩ ++ FB ++ ⟨#[32, 58, 32]⟩ ++ TB ++ ⟨#[32, 59, 10]⟩) := hide (by
                rw [List.take_add_one, hx2, HS2.out, hFB, hTB]
                simp [Pp.fldT, str_app])
              have hlt2 : (b : Int) < (nf : Int) := by omega
              have hK : Hid (∀ wx, Below wr.heap.size wr wx → wx.cell? ⟨bx, 4, none⟩ = some (.slice (some ⟨g2, o2, none⟩) nf fc) ∧ wx.cell? ⟨g2, o2 + b * 4, none⟩ = some (.string FB) ∧ wx.cell? ⟨g2, o2 + b * 4 + 1, none⟩ = some (.int .i64 fk) ∧ wx.cell? ⟨g2, o2 + b * 4 + 2, none⟩ = some (.string ⟨ftn.toArray⟩)) := hide fun wx hb => by
                have h1 := cell_box (HC.out wx (HBr2.out.trans (hb.mono HBr2.out.size))) 4
                have hw := HBw2.out.trans (hb.mono HBw2.out.size)
                have s0 := hc2 wx hw 0 _ rfl
                have s1 := hc2 wx hw 1 _ rfl
                have s2 := hc2 wx hw 2 _ rfl
                rw [Nat.add_zero] at s0
                dsimp only at s0 s1 s2
                rw [← hFB] at s0
                exact ⟨h1, s0, s1, s2⟩
              have q4 := (hK.out wr (Below.refl _ _)).1
              have r3 := hc2 wr HBw2.out 3 _ rfl
              dsimp only at r3
              have fz0 : ¬ 9223372036854775800 < S2.size := by omega
              have gz0 : ¬ 9223372036854775807 < S2.size + 7 := by omega
              have hz0 : S2.size ≤ 9223372036854775800 := by omega
              have iz0 : S2.size + 7 ≤ 9223372036854775807 := by omega
              have fz1 : ¬ 9223372036854775807 < S2.size + 7 + FB.size := by omega
              have fz2 : ¬ 9223372036854775804 < S2.size + 7 + FB.size := by omega
              have gz2 : ¬ 9223372036854775807 < S2.size + 7 + FB.size + 3 := by omega
              have hz2 : S2.size + 7 + FB.size ≤ 9223372036854775804 := by omega
              have iz2 : S2.size + 7 + FB.size + 3 ≤ 9223372036854775807 := by omega
              have fz3 : ¬ 9223372036854775807 < S2.size + 7 + FB.size + 3 + TB.size := by omega
              have fz4 : ¬ 9223372036854775804 < S2.size + 7 + FB.size + 3 + TB.size := by omega
              have gz4 : ¬ 9223372036854775807 < S2.size + 7 + FB.size + 3 + TB.size + 3 := by omega
              have hz4 : S2.size + 7 + FB.size + 3 + TB.size ≤ 9223372036854775804 := by omega
              have iz4 : S2.size + 7 + FB.size + 3 + TB.size + 3 ≤ 9223372036854775807 := by omega
              clear hx2 hc2 hFB hTB
              have HBz : Hid (Below wr.heap.size wr wr.drew) := hide (Below.drew (Below.refl _ _))
              go_wp2_with fail
              clear q4 r3
              go_region_held3 (fun wx => wx.cell? ⟨bx, 4, none⟩ = some (.slice (some ⟨g2, o2, none⟩) nf fc) ∧ wx.cell? ⟨g2, o2 + b * 4, none⟩ = some (.string FB) ∧ wx.cell? ⟨g2, o2 + b * 4 + 1, none⟩ = some (.int .i64 fk) ∧ wx.cell? ⟨g2, o2 + b * 4 + 2, none⟩ = some (.string ⟨ftn.toArray⟩)) (exact hK.out _ HBz.out)
                (first
                  | (go_at_call 30
                     refine (hTW.out _).mono ?_
                     rintro e w6 ⟨rfl, hb6⟩
                     have HBz := hide (HBz.out.trans (hb6.mono HBz.out.size))
                     clear hb6)
                  | fail)
              all_goals go_wp2_with fail
              all_goals go_roundw
              case rel => exact ⟨b + 1, _, by omega, by go_num, rfl, hide (HBr2.out.trans (HBz.out.mono HBr2.out.size)), hide HTk.out.symm, by simp only [ByteArray.size_append]; show S2.size + 7 + FB.size + 3 + TB.size + 3 ≤ _; omega⟩
              case measure => simp [intOf]; omega
              | false =>
              have HTk : Hid (⟨(PA ++ (x.fields.take (b + 1)).flatMap Pp.fldT).toArray⟩ = S2 ++ ⟨#[102, 105, 101, 108, 100, 32]⟩ ++ FB ++ ⟨#[32, 58, 32]⟩ ++ TB ++ ⟨#[32, 59, 10]⟩) := hide (by
                rw [List.take_add_one, hx2, HS2.out, hFB, hTB]
                simp [Pp.fldT, str_app])
              have hlt2 : (b : Int) < (nf : Int) := by omega
              have hK : Hid (∀ wx, Below wr.heap.size wr wx → wx.cell? ⟨bx, 4, none⟩ = some (.slice (some ⟨g2, o2, none⟩) nf fc) ∧ wx.cell? ⟨g2, o2 + b * 4, none⟩ = some (.string FB) ∧ wx.cell? ⟨g2, o2 + b * 4 + 1, none⟩ = some (.int .i64 fk) ∧ wx.cell? ⟨g2, o2 + b * 4 + 2, none⟩ = some (.string ⟨ftn.toArray⟩)) := hide fun wx hb => by
                have h1 := cell_box (HC.out wx (HBr2.out.trans (hb.mono HBr2.out.size))) 4
                have hw := HBw2.out.trans (hb.mono HBw2.out.size)
                have s0 := hc2 wx hw 0 _ rfl
                have s1 := hc2 wx hw 1 _ rfl
                have s2 := hc2 wx hw 2 _ rfl
                rw [Nat.add_zero] at s0
                dsimp only at s0 s1 s2
                rw [← hFB] at s0
                exact ⟨h1, s0, s1, s2⟩
              have q4 := (hK.out wr (Below.refl _ _)).1
              have r3 := hc2 wr HBw2.out 3 _ rfl
              dsimp only at r3
              have fz0 : ¬ 9223372036854775801 < S2.size := by omega
              have gz0 : ¬ 9223372036854775807 < S2.size + 6 := by omega
              have hz0 : S2.size ≤ 9223372036854775801 := by omega
              have iz0 : S2.size + 6 ≤ 9223372036854775807 := by omega
              have fz1 : ¬ 9223372036854775807 < S2.size + 6 + FB.size := by omega
              have fz2 : ¬ 9223372036854775804 < S2.size + 6 + FB.size := by omega
              have gz2 : ¬ 9223372036854775807 < S2.size + 6 + FB.size + 3 := by omega
              have hz2 : S2.size + 6 + FB.size ≤ 9223372036854775804 := by omega
              have iz2 : S2.size + 6 + FB.size + 3 ≤ 9223372036854775807 := by omega
              have fz3 : ¬ 9223372036854775807 < S2.size + 6 + FB.size + 3 + TB.size := by omega
              have fz4 : ¬ 9223372036854775804 < S2.size + 6 + FB.size + 3 + TB.size := by omega
              have gz4 : ¬ 9223372036854775807 < S2.size + 6 + FB.size + 3 + TB.size + 3 := by omega
              have hz4 : S2.size + 6 + FB.size + 3 + TB.size ≤ 9223372036854775804 := by omega
              have iz4 : S2.size + 6 + FB.size + 3 + TB.size + 3 ≤ 9223372036854775807 := by omega
              clear hx2 hc2 hFB hTB
              have HBz : Hid (Below wr.heap.size wr wr.drew) := hide (Below.drew (Below.refl _ _))
              go_wp2_with fail
              clear q4 r3
              go_region_held3 (fun wx => wx.cell? ⟨bx, 4, none⟩ = some (.slice (some ⟨g2, o2, none⟩) nf fc) ∧ wx.cell? ⟨g2, o2 + b * 4, none⟩ = some (.string FB) ∧ wx.cell? ⟨g2, o2 + b * 4 + 1, none⟩ = some (.int .i64 fk) ∧ wx.cell? ⟨g2, o2 + b * 4 + 2, none⟩ = some (.string ⟨ftn.toArray⟩)) (exact hK.out _ HBz.out)
                (first
                  | (go_at_call 30
                     refine (hTW.out _).mono ?_
                     rintro e w6 ⟨rfl, hb6⟩
                     have HBz := hide (HBz.out.trans (hb6.mono HBz.out.size))
                     clear hb6)
                  | fail)
              all_goals go_wp2_with fail
              all_goals go_roundw
              case rel => exact ⟨b + 1, _, by omega, by go_num, rfl, hide (HBr2.out.trans (HBz.out.mono HBr2.out.size)), hide HTk.out.symm, by simp only [ByteArray.size_append]; show S2.size + 6 + FB.size + 3 + TB.size + 3 ≤ _; omega⟩
              case measure => simp [intOf]; omega
            · have hbn : b = nf := by omega
              subst hbn
              obtain ⟨PB, hPB⟩ : ∃ q, q = PA ++ x.fields.flatMap Pp.fldT := ⟨_, rfl⟩
              have HPB := hide hPB
              have HS2e : Hid (S2 = ⟨PB.toArray⟩) := hide (by rw [hPB, HS2.out, List.take_of_length_le (by rw [← HNf.out]; exact Nat.le_refl _)])
              have hnl2 : ¬ ((b : Int) < (b : Int)) := by omega
              have hz2' : S2.size ≤ 30000 * k + 800 := by omega
              have q4 := cell_box (HC.out wr HBr2.out) 4
              have q5 := cell_box (HC.out wr HBr2.out) 5
              clear HS2 hPB hz2 HBw2
              go_wp2_with fail
              obtain ⟨wF, rfl⟩ : ∃ q, q = wr := ⟨_, rfl⟩
              clear q4 q5
              go_loopw [3, 9] (fun s i wr => ∃ (d : Nat) (S3 : ByteArray), d ≤ nm ∧ i = .int .i64 d ∧ s = .string S3 ∧ Hid (Below wc.heap.size wc wr) ∧ Hid (S3 = ⟨(PB ++ ((x.methods.map Pp.XMth.toP).take d).flatMap Pp.mthT).toArray⟩) ∧ S3.size ≤ 30000 * k + 800 + 4500 * d) (fun s i _ => nm - (intOf i).toNat)
              case atStart => exact ⟨0, _, Nat.zero_le _, rfl, rfl, HBr2, hide (by rw [HS2e.out]; simp), by omega⟩
              case round =>
              obtain ⟨d, S3, hd, rfl, rfl, HBr3, HS3, hz3⟩ := hrel
              have q5 := cell_box (HC.out wr HBr3.out) 5
              by_cases hltm : d < nm
              · obtain ⟨m, hx3⟩ : ∃ m, x.methods[d]? = some m := ⟨x.methods[d]'(by rw [← HNm.out]; exact hltm), List.getElem?_eq_getElem _⟩
                have hokm : Pp.okMth m.toP := HOkx.out.2.2.2.2.2 _ (List.mem_map_of_mem (List.mem_of_getElem? hx3))
                have hposm := HPosx.out m (List.mem_of_getElem? hx3)
                obtain ⟨g3, o3, eg3, ys3, wm, hc3⟩ := Sh.row_at2 HRm.out hx3
                subst eg3
                have HBw3 := HBk0.out.trans ((HBk.out.trans (HBr3.out.mono HBk.out.size)).mono HBk0.out.size)
                have hMT := hide (methodText_any m ys3 wr (wm.on HBw3) hokm hposm)
                obtain ⟨MB, hMB⟩ : ∃ q : ByteArray, q = ⟨(Pp.mthT m.toP).toArray⟩ := ⟨_, rfl⟩
                have hmb : MB.size ≤ 4500 := by rw [hMB, str_size]; exact mthT_len hokm
                rw [← hMB] at hMT
                have HTk : Hid (⟨(PB ++ ((x.methods.map Pp.XMth.toP).take (d + 1)).flatMap Pp.mthT).toArray⟩ = S3 ++ MB) := hide (by
                  rw [List.take_add_one, List.getElem?_map, hx3, HS3.out, hMB, str_app]; simp)
                obtain ⟨vp, vc, vk, rfl, x1, x2, x3, _⟩ := wm
                obtain ⟨va1, vd1, rfl, _⟩ := x1.len
                obtain ⟨va2, vd2, rfl, _⟩ := x2.len
                obtain ⟨va3, vd3, rfl, _⟩ := x3.len
                have r0 := hc3 wr HBw3 0 _ rfl
                have r1 := hc3 wr HBw3 1 _ rfl
                have r2 := hc3 wr HBw3 2 _ rfl
                have r3 := hc3 wr HBw3 3 _ rfl
                have r4 := hc3 wr HBw3 4 _ rfl
                have r5 := hc3 wr HBw3 5 _ rfl
                have r6 := hc3 wr HBw3 6 _ rfl
                have r7 := hc3 wr HBw3 7 _ rfl
                have r8 := hc3 wr HBw3 8 _ rfl
                rw [Nat.add_zero] at r0
                have hltm' : (d : Int) < (nm : Int) := by omega
                clear hx3 hokm hposm hc3 HBw3 hMB x1 x2 x3
                simp only [mthXL] at hMT
                go_wp2_with fail
                refine hMT.out.mono ?_
                rintro e w6 ⟨rfl, hb6⟩
                have HB6 := hide (HBr3.out.trans (hb6.mono HBr3.out.size))
                clear hb6 hMT r0 r1 r2 r3 r4 r5 r6 r7 r8
                go_wp2_with fail
                go_roundw
                case rel => exact ⟨d + 1, _, by omega, by go_num, rfl, HB6, hide HTk.out.symm, by simp only [ByteArray.size_append]; omega⟩
                case measure => simp [intOf]; omega
              · have hdn : d = nm := by omega
                subst hdn
                have HSe : Hid (⟨(((cs.map Pp.XCls.toP).take (k + 1)).flatMap Pp.clsT).toArray⟩ = S3 ++ ⟨#[125, 10]⟩) := hide (by
                  rw [HTx.out, HS3.out, List.take_of_length_le (by rw [List.length_map, ← HNm.out]; exact Nat.le_refl _), str_app, HPB.out, HPA.out, HHD.out]
                  unfold Pp.clsT
                  rw [show x.toP.iface = false from HIC.out]
                  simp [Pp.XCls.toP])
                have hnl3 : ¬ ((d : Int) < (d : Int)) := by omega
                go_wp2_with fail
                go_roundw
                case rel => exact ⟨k + 1, _, by omega, by go_num, rfl, hide (HBk.out.trans (HBr3.out.mono HBk.out.size)), hide HSe.out.symm, by simp only [ByteArray.size_append]; show S3.size + 2 ≤ _; omega⟩
                case measure => simp [intOf]; omega

      | true =>
        have HEh : Hid (⟨(ACC ++ HD).toArray⟩ = S ++ ⟨#[105, 110, 116, 101, 114, 102, 97, 99, 101, 32]⟩ ++ NB) := hide (by
          rw [hHD, HS.out, hNB]
          unfold Pp.clsH
          rw [show x.toP.iface = true from hic, show x.toP.name = x.name from rfl, show x.toP.super = x.super from rfl, if_pos hsup]
          simp [str_app])
        have HIC : Hid (x.iface = true) := hide hic
        rw [hsup] at r2
        rw [hic] at r1
        have hcc := heap_alloc_new wr (.cells #[.string NB, .bool true, .string ⟨#[]⟩, .slice ia ni ic, .slice fa nf fc, .slice ma nm mc] 48)
        have HBc := hide ((Below.refl wr.heap.size wr).alloc (Nat.le_refl _) (.cells #[.string NB, .bool true, .string ⟨#[]⟩, .slice ia ni ic, .slice fa nf fc, .slice ma nm mc] 48))
        have b0 := cell_box hcc 0
        have b1 := cell_box hcc 1
        have b2 := cell_box hcc 2
        have b3 := cell_box hcc 3
        clear hHD HS hNB  hic hsup
        go_wp2_with fail
        clear r0 r1 r2 r3 r4 r5 b0 b1 b2 b3
        generalize wr.alloc (.cells #[.string NB, .bool true, .string ⟨#[]⟩, .slice ia ni ic, .slice fa nf fc, .slice ma nm mc] 48) = wc at *
        have HC : Hid (∀ wx, Below wc.heap.size wc wx → wx.heap[wr.heap.size]? = some (.cells #[.string NB, .bool true, .string ⟨#[]⟩, .slice ia ni ic, .slice fa nf fc, .slice ma nm mc] 48 (0, 0))) := hide fun wx hb => (hb.block _ (Sh.lt_of_blk hcc)).trans hcc
        clear hcc
        have HBk := hide (HBr.out.trans (HBc.out.mono HBr.out.size))
        generalize wr.heap.size = bx at HC ⊢
        obtain ⟨wB, rfl⟩ : ∃ q, q = wr := ⟨_, rfl⟩
        go_loopw [3, 6] (fun s i wr => ∃ (a : Nat) (S1 : ByteArray), a ≤ ni ∧ i = .int .i64 a ∧ s = .string S1 ∧ Hid (Below wc.heap.size wc wr) ∧ Hid (S1 = ⟨(ACC ++ HD ++ Pp.ifsT true (x.ifaces.take a)).toArray⟩) ∧ S1.size ≤ 30000 * k + 100 + 40 * a) (fun s i _ => ni - (intOf i).toNat)
        case atStart => exact ⟨0, _, Nat.zero_le _, rfl, rfl, hide (Below.refl _ _), hide (by rw [← HEh.out]; simp [Pp.ifsT]), by simp only [ByteArray.size_append]; show S.size + 10 + NB.size ≤ _; omega⟩
        case round =>
          obtain ⟨a, S1, ha, rfl, rfl, HBr1, HS1, hz1⟩ := hrel
          have q3 := cell_box (HC.out wr HBr1.out) 3
          have q1 := cell_box (HC.out wr HBr1.out) 1
          by_cases hlt1 : a < ni
          · obtain ⟨y, hy⟩ : ∃ y, x.ifaces[a]? = some y := ⟨x.ifaces[a]'(by rw [← HNi.out]; exact hlt1), List.getElem?_eq_getElem _⟩
            have hoky := HOkx.out.2.2.1.2 y (List.mem_of_getElem? hy)
            obtain ⟨g1, o1, eg1, ys1, wy, hc1⟩ := Sh.row_at2 HRi.out hy
            subst eg1
            obtain ⟨rfl, _⟩ := wy
            have r0 := hc1 wr (HBk0.out.trans ((HBk.out.trans (HBr1.out.mono HBk.out.size)).mono HBk0.out.size)) 0 _ rfl
            rw [Nat.add_zero, Nat.mul_one] at r0
            obtain ⟨YB, hYB⟩ : ∃ q : ByteArray, q = ⟨y.toArray⟩ := ⟨_, rfl⟩
            have hyb : YB.size ≤ 20 := by rw [hYB, str_size]; exact Lx.nameL_len _ hoky.1
            rw [← hYB] at r0
            have HTk : Hid (Pp.ifsT true (x.ifaces.take (a + 1)) = Pp.ifsT true (x.ifaces.take a) ++ ((if 0 < a then [32, 44, 32] else Pp.ifsH true) ++ y)) := hide (by
              rw [List.take_add_one, hy]
              show Pp.ifsT true (x.ifaces.take a ++ [y]) = _
              rw [Pp.ifsT_snoc, List.length_take, Nat.min_eq_left (by rw [← HNi.out]; exact ha)])
            have hlt1' : (a : Int) < (ni : Int) := by omega
            clear hy hoky hc1
            rcases Nat.eq_zero_or_pos a with h0 | h0
            · have HTk0 : Hid (⟨(ACC ++ HD ++ Pp.ifsT true (x.ifaces.take (a + 1))).toArray⟩ = S1 ++ ⟨#[32, 101, 120, 116, 101, 110, 100, 115, 32]⟩ ++ YB) := hide (by rw [HTk.out, HS1.out, hYB, if_neg (by omega), str_app, str_app]; simp [Pp.ifsH])
              have h0' : ¬ ((0 : Int) < (a : Int)) := by omega
              clear h0 hYB
              go_wp2_with fail
              go_roundw
              case rel => exact ⟨a + 1, _, by omega, by go_num, rfl, HBr1, hide HTk0.out.symm, by simp only [ByteArray.size_append]; show S1.size + 9 + YB.size ≤ _; omega⟩
              case measure => simp [intOf]; omega
            · have HTk0 : Hid (⟨(ACC ++ HD ++ Pp.ifsT true (x.ifaces.take (a + 1))).toArray⟩ = S1 ++ ⟨#[32, 44, 32]⟩ ++ YB) := hide (by rw [HTk.out, HS1.out, hYB, if_pos h0, str_app, str_app]; simp [Pp.ifsH])
              have h0' : ((0 : Int) < (a : Int)) := by omega
              clear h0 hYB
              go_wp2_with fail
              go_roundw
              case rel => exact ⟨a + 1, _, by omega, by go_num, rfl, HBr1, hide HTk0.out.symm, by simp only [ByteArray.size_append]; show S1.size + 3 + YB.size ≤ _; omega⟩
              case measure => simp [intOf]; omega
          · have han : a = ni := by omega
            subst han
            obtain ⟨PA, hPA⟩ : ∃ q, q = ACC ++ HD ++ Pp.ifsT true x.ifaces ++ [32, 123, 10] := ⟨_, rfl⟩
            have HPA := hide hPA
            have HS1e : Hid (⟨PA.toArray⟩ = S1 ++ ⟨#[32, 123, 10]⟩) := hide (by rw [hPA, HS1.out, List.take_of_length_le (by rw [← HNi.out]; exact Nat.le_refl _), str_app])
            have hnl : ¬ ((a : Int) < (a : Int)) := by omega
            have hz1' : S1.size ≤ 30000 * k + 300 := by omega
            have q4 := cell_box (HC.out wr HBr1.out) 4
            clear HS1 hPA hz1
            go_wp2_with fail
            obtain ⟨wI, rfl⟩ : ∃ q, q = wr := ⟨_, rfl⟩
            clear q1 q3 q4
            go_loopw [3, 7] (fun s i wr => ∃ (b : Nat) (S2 : ByteArray), b ≤ nf ∧ i = .int .i64 b ∧ s = .string S2 ∧ Hid (Below wc.heap.size wc wr) ∧ Hid (S2 = ⟨(PA ++ (x.fields.take b).flatMap Pp.fldT).toArray⟩) ∧ S2.size ≤ 30000 * k + 310 + 80 * b) (fun s i _ => nf - (intOf i).toNat)
            case atStart => exact ⟨0, _, Nat.zero_le _, rfl, rfl, HBr1, hide (by rw [← HS1e.out]; simp), by simp only [ByteArray.size_append]; show S1.size + 3 ≤ _; omega⟩
            case round =>
            obtain ⟨b, S2, hb2, rfl, rfl, HBr2, HS2, hz2⟩ := hrel
            have HBw2 := hide (HBk0.out.trans ((HBk.out.trans (HBr2.out.mono HBk.out.size)).mono HBk0.out.size))
            by_cases hltf : b < nf
            · obtain ⟨f, hx2⟩ : ∃ f, x.fields[b]? = some f := ⟨x.fields[b]'(by rw [← HNf.out]; exact hltf), List.getElem?_eq_getElem _⟩
              have hokf := HOkx.out.2.2.2.1.2 f (List.mem_of_getElem? hx2)
              obtain ⟨g2, o2, eg2, ys2, wf, hc2⟩ := Sh.row_at2 HRf.out hx2
              subst eg2
              obtain ⟨fnm, ⟨fk, ftn⟩, fst⟩ := f
              obtain ⟨rfl, _⟩ := wf
              have hTW := hide (fun w' => refTypeWords_any ⟨fk, ftn⟩ hokf.2 w')
              obtain ⟨TB, hTB⟩ : ∃ q : ByteArray, q = ⟨(Pp.tws ⟨fk, ftn⟩).toArray⟩ := ⟨_, rfl⟩
              obtain ⟨FB, hFB⟩ : ∃ q : ByteArray, q = ⟨fnm.toArray⟩ := ⟨_, rfl⟩
              have htb : TB.size ≤ 24 := by rw [hTB, str_size]; exact tws_len hokf.2
              have hfb : FB.size ≤ 20 := by rw [hFB, str_size]; exact Lx.nameL_len _ hokf.1.1
              rw [← hTB] at hTW
              dsimp only at hTW
              clear hokf
              cases fst with
              | true =>
              have HTk : Hid (⟨(PA ++ (x.fields.take (b + 1)).flatMap Pp.fldT).toArray⟩ = S2 ++ ⟨#[115, 116, 97, 116, 105, 99, 32]⟩ ++ FB ++ ⟨#[32, 58, 32]⟩ ++ TB ++ ⟨#[32, 59, 10]⟩) := hide (by
                rw [List.take_add_one, hx2, HS2.out, hFB, hTB]
                simp [Pp.fldT, str_app])
              have hlt2 : (b : Int) < (nf : Int) := by omega
              have hK : Hid (∀ wx, Below wr.heap.size wr wx → wx.cell? ⟨bx, 4, none⟩ = some (.slice (some ⟨g2, o2, none⟩) nf fc) ∧ wx.cell? ⟨g2, o2 + b * 4, none⟩ = some (.string FB) ∧ wx.cell? ⟨g2, o2 + b * 4 + 1, none⟩ = some (.int .i64 fk) ∧ wx.cell? ⟨g2, o2 + b * 4 + 2, none⟩ = some (.string ⟨ftn.toArray⟩)) := hide fun wx hb => by
                have h1 := cell_box (HC.out wx (HBr2.out.trans (hb.mono HBr2.out.size))) 4
                have hw := HBw2.out.trans (hb.mono HBw2.out.size)
                have s0 := hc2 wx hw 0 _ rfl
                have s1 := hc2 wx hw 1 _ rfl
                have s2 := hc2 wx hw 2 _ rfl
                rw [Nat.add_zero] at s0
                dsimp only at s0 s1 s2
                rw [← hFB] at s0
                exact ⟨h1, s0, s1, s2⟩
              have q4 := (hK.out wr (Below.refl _ _)).1
              have r3 := hc2 wr HBw2.out 3 _ rfl
              dsimp only at r3
              have fz0 : ¬ 9223372036854775800 < S2.size := by omega
              have gz0 : ¬ 9223372036854775807 < S2.size + 7 := by omega
              have hz0 : S2.size ≤ 9223372036854775800 := by omega
              have iz0 : S2.size + 7 ≤ 9223372036854775807 := by omega
              have fz1 : ¬ 9223372036854775807 < S2.size + 7 + FB.size := by omega
              have fz2 : ¬ 9223372036854775804 < S2.size + 7 + FB.size := by omega
              have gz2 : ¬ 9223372036854775807 < S2.size + 7 + FB.size + 3 := by omega
              have hz2 : S2.size + 7 + FB.size ≤ 9223372036854775804 := by omega
              have iz2 : S2.size + 7 + FB.size + 3 ≤ 9223372036854775807 := by omega
              have fz3 : ¬ 9223372036854775807 < S2.size + 7 + FB.size + 3 + TB.size := by omega
              have fz4 : ¬ 9223372036854775804 < S2.size + 7 + FB.size + 3 + TB.size := by omega
              have gz4 : ¬ 9223372036854775807 < S2.size + 7 + FB.size + 3 + TB.size + 3 := by omega
              have hz4 : S2.size + 7 + FB.size + 3 + TB.size ≤ 9223372036854775804 := by omega
              have iz4 : S2.size + 7 + FB.size + 3 + TB.size + 3 ≤ 9223372036854775807 := by omega
              clear hx2 hc2 hFB hTB
              have HBz : Hid (Below wr.heap.size wr wr.drew) := hide (Below.drew (Below.refl _ _))
              go_wp2_with fail
              clear q4 r3
              go_region_held3 (fun wx => wx.cell? ⟨bx, 4, none⟩ = some (.slice (some ⟨g2, o2, none⟩) nf fc) ∧ wx.cell? ⟨g2, o2 + b * 4, none⟩ = some (.string FB) ∧ wx.cell? ⟨g2, o2 + b * 4 + 1, none⟩ = some (.int .i64 fk) ∧ wx.cell? ⟨g2, o2 + b * 4 + 2, none⟩ = some (.string ⟨ftn.toArray⟩)) (exact hK.out _ HBz.out)
                (first
                  | (go_at_call 30
                     refine (hTW.out _).mono ?_
                     rintro e w6 ⟨rfl, hb6⟩
                     have HBz := hide (HBz.out.trans (hb6.mono HBz.out.size))
                     clear hb6)
                  | fail)
              all_goals go_wp2_with fail
              all_goals go_roundw
              case rel => exact ⟨b + 1, _, by omega, by go_num, rfl, hide (HBr2.out.trans (HBz.out.mono HBr2.out.size)), hide HTk.out.symm, by simp only [ByteArray.size_append]; show S2.size + 7 + FB.size + 3 + TB.size + 3 ≤ _; omega⟩
              case measure => simp [intOf]; omega
              | false =>
              have HTk : Hid (⟨(PA ++ (x.fields.take (b + 1)).flatMap Pp.fldT).toArray⟩ = S2 ++ ⟨#[102, 105, 101, 108, 100, 32]⟩ ++ FB ++ ⟨#[32, 58, 32]⟩ ++ TB ++ ⟨#[32, 59, 10]⟩) := hide (by
                rw [List.take_add_one, hx2, HS2.out, hFB, hTB]
                simp [Pp.fldT, str_app])
              have hlt2 : (b : Int) < (nf : Int) := by omega
              have hK : Hid (∀ wx, Below wr.heap.size wr wx → wx.cell? ⟨bx, 4, none⟩ = some (.slice (some ⟨g2, o2, none⟩) nf fc) ∧ wx.cell? ⟨g2, o2 + b * 4, none⟩ = some (.string FB) ∧ wx.cell? ⟨g2, o2 + b * 4 + 1, none⟩ = some (.int .i64 fk) ∧ wx.cell? ⟨g2, o2 + b * 4 + 2, none⟩ = some (.string ⟨ftn.toArray⟩)) := hide fun wx hb => by
                have h1 := cell_box (HC.out wx (HBr2.out.trans (hb.mono HBr2.out.size))) 4
                have hw := HBw2.out.trans (hb.mono HBw2.out.size)
                have s0 := hc2 wx hw 0 _ rfl
                have s1 := hc2 wx hw 1 _ rfl
                have s2 := hc2 wx hw 2 _ rfl
                rw [Nat.add_zero] at s0
                dsimp only at s0 s1 s2
                rw [← hFB] at s0
                exact ⟨h1, s0, s1, s2⟩
              have q4 := (hK.out wr (Below.refl _ _)).1
              have r3 := hc2 wr HBw2.out 3 _ rfl
              dsimp only at r3
              have fz0 : ¬ 9223372036854775801 < S2.size := by omega
              have gz0 : ¬ 9223372036854775807 < S2.size + 6 := by omega
              have hz0 : S2.size ≤ 9223372036854775801 := by omega
              have iz0 : S2.size + 6 ≤ 9223372036854775807 := by omega
              have fz1 : ¬ 9223372036854775807 < S2.size + 6 + FB.size := by omega
              have fz2 : ¬ 9223372036854775804 < S2.size + 6 + FB.size := by omega
              have gz2 : ¬ 9223372036854775807 < S2.size + 6 + FB.size + 3 := by omega
              have hz2 : S2.size + 6 + FB.size ≤ 9223372036854775804 := by omega
              have iz2 : S2.size + 6 + FB.size + 3 ≤ 9223372036854775807 := by omega
              have fz3 : ¬ 9223372036854775807 < S2.size + 6 + FB.size + 3 + TB.size := by omega
              have fz4 : ¬ 9223372036854775804 < S2.size + 6 + FB.size + 3 + TB.size := by omega
              have gz4 : ¬ 9223372036854775807 < S2.size + 6 + FB.size + 3 + TB.size + 3 := by omega
              have hz4 : S2.size + 6 + FB.size + 3 + TB.size ≤ 9223372036854775804 := by omega
              have iz4 : S2.size + 6 + FB.size + 3 + TB.size + 3 ≤ 9223372036854775807 := by omega
              clear hx2 hc2 hFB hTB
              have HBz : Hid (Below wr.heap.size wr wr.drew) := hide (Below.drew (Below.refl _ _))
              go_wp2_with fail
              clear q4 r3
              go_region_held3 (fun wx => wx.cell? ⟨bx, 4, none⟩ = some (.slice (some ⟨g2, o2, none⟩) nf fc) ∧ wx.cell? ⟨g2, o2 + b * 4, none⟩ = some (.string FB) ∧ wx.cell? ⟨g2, o2 + b * 4 + 1, none⟩ = some (.int .i64 fk) ∧ wx.cell? ⟨g2, o2 + b * 4 + 2, none⟩ = some (.string ⟨ftn.toArray⟩)) (exact hK.out _ HBz.out)
                (first
                  | (go_at_call 30
                     refine (hTW.out _).mono ?_
                     rintro e w6 ⟨rfl, hb6⟩
                     have HBz := hide (HBz.out.trans (hb6.mono HBz.out.size))
                     clear hb6)
                  | fail)
              all_goals go_wp2_with fail
              all_goals go_roundw
              case rel => exact ⟨b + 1, _, by omega, by go_num, rfl, hide (HBr2.out.trans (HBz.out.mono HBr2.out.size)), hide HTk.out.symm, by simp only [ByteArray.size_append]; show S2.size + 6 + FB.size + 3 + TB.size + 3 ≤ _; omega⟩
              case measure => simp [intOf]; omega
            · have hbn : b = nf := by omega
              subst hbn
              obtain ⟨PB, hPB⟩ : ∃ q, q = PA ++ x.fields.flatMap Pp.fldT := ⟨_, rfl⟩
              have HPB := hide hPB
              have HS2e : Hid (S2 = ⟨PB.toArray⟩) := hide (by rw [hPB, HS2.out, List.take_of_length_le (by rw [← HNf.out]; exact Nat.le_refl _)])
              have hnl2 : ¬ ((b : Int) < (b : Int)) := by omega
              have hz2' : S2.size ≤ 30000 * k + 800 := by omega
              have q4 := cell_box (HC.out wr HBr2.out) 4
              have q5 := cell_box (HC.out wr HBr2.out) 5
              clear HS2 hPB hz2 HBw2
              go_wp2_with fail
              obtain ⟨wF, rfl⟩ : ∃ q, q = wr := ⟨_, rfl⟩
              clear q4 q5
              go_loopw [3, 9] (fun s i wr => ∃ (d : Nat) (S3 : ByteArray), d ≤ nm ∧ i = .int .i64 d ∧ s = .string S3 ∧ Hid (Below wc.heap.size wc wr) ∧ Hid (S3 = ⟨(PB ++ ((x.methods.map Pp.XMth.toP).take d).flatMap Pp.mthT).toArray⟩) ∧ S3.size ≤ 30000 * k + 800 + 4500 * d) (fun s i _ => nm - (intOf i).toNat)
              case atStart => exact ⟨0, _, Nat.zero_le _, rfl, rfl, HBr2, hide (by rw [HS2e.out]; simp), by omega⟩
              case round =>
              obtain ⟨d, S3, hd, rfl, rfl, HBr3, HS3, hz3⟩ := hrel
              have q5 := cell_box (HC.out wr HBr3.out) 5
              by_cases hltm : d < nm
              · obtain ⟨m, hx3⟩ : ∃ m, x.methods[d]? = some m := ⟨x.methods[d]'(by rw [← HNm.out]; exact hltm), List.getElem?_eq_getElem _⟩
                have hokm : Pp.okMth m.toP := HOkx.out.2.2.2.2.2 _ (List.mem_map_of_mem (List.mem_of_getElem? hx3))
                have hposm := HPosx.out m (List.mem_of_getElem? hx3)
                obtain ⟨g3, o3, eg3, ys3, wm, hc3⟩ := Sh.row_at2 HRm.out hx3
                subst eg3
                have HBw3 := HBk0.out.trans ((HBk.out.trans (HBr3.out.mono HBk.out.size)).mono HBk0.out.size)
                have hMT := hide (methodText_any m ys3 wr (wm.on HBw3) hokm hposm)
                obtain ⟨MB, hMB⟩ : ∃ q : ByteArray, q = ⟨(Pp.mthT m.toP).toArray⟩ := ⟨_, rfl⟩
                have hmb : MB.size ≤ 4500 := by rw [hMB, str_size]; exact mthT_len hokm
                rw [← hMB] at hMT
                have HTk : Hid (⟨(PB ++ ((x.methods.map Pp.XMth.toP).take (d + 1)).flatMap Pp.mthT).toArray⟩ = S3 ++ MB) := hide (by
                  rw [List.take_add_one, List.getElem?_map, hx3, HS3.out, hMB, str_app]; simp)
                obtain ⟨vp, vc, vk, rfl, x1, x2, x3, _⟩ := wm
                obtain ⟨va1, vd1, rfl, _⟩ := x1.len
                obtain ⟨va2, vd2, rfl, _⟩ := x2.len
                obtain ⟨va3, vd3, rfl, _⟩ := x3.len
                have r0 := hc3 wr HBw3 0 _ rfl
                have r1 := hc3 wr HBw3 1 _ rfl
                have r2 := hc3 wr HBw3 2 _ rfl
                have r3 := hc3 wr HBw3 3 _ rfl
                have r4 := hc3 wr HBw3 4 _ rfl
                have r5 := hc3 wr HBw3 5 _ rfl
                have r6 := hc3 wr HBw3 6 _ rfl
                have r7 := hc3 wr HBw3 7 _ rfl
                have r8 := hc3 wr HBw3 8 _ rfl
                rw [Nat.add_zero] at r0
                have hltm' : (d : Int) < (nm : Int) := by omega
                clear hx3 hokm hposm hc3 HBw3 hMB x1 x2 x3
                simp only [mthXL] at hMT
                go_wp2_with fail
                refine hMT.out.mono ?_
                rintro e w6 ⟨rfl, hb6⟩
                have HB6 := hide (HBr3.out.trans (hb6.mono HBr3.out.size))
                clear hb6 hMT r0 r1 r2 r3 r4 r5 r6 r7 r8
                go_wp2_with fail
                go_roundw
                case rel => exact ⟨d + 1, _, by omega, by go_num, rfl, HB6, hide HTk.out.symm, by simp only [ByteArray.size_append]; omega⟩
                case measure => simp [intOf]; omega
              · have hdn : d = nm := by omega
                subst hdn
                have HSe : Hid (⟨(((cs.map Pp.XCls.toP).take (k + 1)).flatMap Pp.clsT).toArray⟩ = S3 ++ ⟨#[125, 10]⟩) := hide (by
                  rw [HTx.out, HS3.out, List.take_of_length_le (by rw [List.length_map, ← HNm.out]; exact Nat.le_refl _), str_app, HPB.out, HPA.out, HHD.out]
                  unfold Pp.clsT
                  rw [show x.toP.iface = true from HIC.out]
                  simp [Pp.XCls.toP])
                have hnl3 : ¬ ((d : Int) < (d : Int)) := by omega
                go_wp2_with fail
                go_roundw
                case rel => exact ⟨k + 1, _, by omega, by go_num, rfl, hide (HBk.out.trans (HBr3.out.mono HBk.out.size)), hide HSe.out.symm, by simp only [ByteArray.size_append]; show S3.size + 2 ≤ _; omega⟩
                case measure => simp [intOf]; omega

    · have hsn : Lx.nameL x.super = true := by
        rcases hokx.2.1 with h | ⟨_, h⟩
        · exact absurd h hsup
        · exact h.1
      have hne := sh_nonempty x.super hsup
      obtain ⟨SB, hSB⟩ : ∃ q : ByteArray, q = ⟨x.super.toArray⟩ := ⟨_, rfl⟩
      have hsb : SB.size ≤ 20 := by rw [hSB, str_size]; exact Lx.nameL_len _ hsn
      rw [← hSB] at hne
      clear hsn hokx
      cases hic : x.iface with
      | false =>
        have HEh : Hid (⟨(ACC ++ HD).toArray⟩ = S ++ ⟨#[99, 108, 97, 115, 115, 32]⟩ ++ NB ++ ⟨#[32, 101, 120, 116, 101, 110, 100, 115, 32]⟩ ++ SB) := hide (by
          rw [hHD, HS.out, hNB, hSB]
          unfold Pp.clsH
          rw [show x.toP.iface = false from hic, show x.toP.name = x.name from rfl, show x.toP.super = x.super from rfl, if_neg hsup]
          simp [str_app])
        have HIC : Hid (x.iface = false) := hide hic
        rw [← hSB] at r2
        rw [hic] at r1
        have hcc := heap_alloc_new wr (.cells #[.string NB, .bool false, .string SB, .slice ia ni ic, .slice fa nf fc, .slice ma nm mc] 48)
        have HBc := hide ((Below.refl wr.heap.size wr).alloc (Nat.le_refl _) (.cells #[.string NB, .bool false, .string SB, .slice ia ni ic, .slice fa nf fc, .slice ma nm mc] 48))
        have b0 := cell_box hcc 0
        have b1 := cell_box hcc 1
        have b2 := cell_box hcc 2
        have b3 := cell_box hcc 3
        clear hHD HS hNB hSB hic 
        go_wp2_with fail
        clear r0 r1 r2 r3 r4 r5 b0 b1 b2 b3
        generalize wr.alloc (.cells #[.string NB, .bool false, .string SB, .slice ia ni ic, .slice fa nf fc, .slice ma nm mc] 48) = wc at *
        have HC : Hid (∀ wx, Below wc.heap.size wc wx → wx.heap[wr.heap.size]? = some (.cells #[.string NB, .bool false, .string SB, .slice ia ni ic, .slice fa nf fc, .slice ma nm mc] 48 (0, 0))) := hide fun wx hb => (hb.block _ (Sh.lt_of_blk hcc)).trans hcc
        clear hcc
        have HBk := hide (HBr.out.trans (HBc.out.mono HBr.out.size))
        generalize wr.heap.size = bx at HC ⊢
        obtain ⟨wB, rfl⟩ : ∃ q, q = wr := ⟨_, rfl⟩
        go_loopw [3, 6] (fun s i wr => ∃ (a : Nat) (S1 : ByteArray), a ≤ ni ∧ i = .int .i64 a ∧ s = .string S1 ∧ Hid (Below wc.heap.size wc wr) ∧ Hid (S1 = ⟨(ACC ++ HD ++ Pp.ifsT false (x.ifaces.take a)).toArray⟩) ∧ S1.size ≤ 30000 * k + 100 + 40 * a) (fun s i _ => ni - (intOf i).toNat)
        case atStart => exact ⟨0, _, Nat.zero_le _, rfl, rfl, hide (Below.refl _ _), hide (by rw [← HEh.out]; simp [Pp.ifsT]), by simp only [ByteArray.size_append]; show S.size + 6 + NB.size + 9 + SB.size ≤ _; omega⟩
        case round =>
          obtain ⟨a, S1, ha, rfl, rfl, HBr1, HS1, hz1⟩ := hrel
          have q3 := cell_box (HC.out wr HBr1.out) 3
          have q1 := cell_box (HC.out wr HBr1.out) 1
          by_cases hlt1 : a < ni
          · obtain ⟨y, hy⟩ : ∃ y, x.ifaces[a]? = some y := ⟨x.ifaces[a]'(by rw [← HNi.out]; exact hlt1), List.getElem?_eq_getElem _⟩
            have hoky := HOkx.out.2.2.1.2 y (List.mem_of_getElem? hy)
            obtain ⟨g1, o1, eg1, ys1, wy, hc1⟩ := Sh.row_at2 HRi.out hy
            subst eg1
            obtain ⟨rfl, _⟩ := wy
            have r0 := hc1 wr (HBk0.out.trans ((HBk.out.trans (HBr1.out.mono HBk.out.size)).mono HBk0.out.size)) 0 _ rfl
            rw [Nat.add_zero, Nat.mul_one] at r0
            obtain ⟨YB, hYB⟩ : ∃ q : ByteArray, q = ⟨y.toArray⟩ := ⟨_, rfl⟩
            have hyb : YB.size ≤ 20 := by rw [hYB, str_size]; exact Lx.nameL_len _ hoky.1
            rw [← hYB] at r0
            have HTk : Hid (Pp.ifsT false (x.ifaces.take (a + 1)) = Pp.ifsT false (x.ifaces.take a) ++ ((if 0 < a then [32, 44, 32] else Pp.ifsH false) ++ y)) := hide (by
              rw [List.take_add_one, hy]
              show Pp.ifsT false (x.ifaces.take a ++ [y]) = _
              rw [Pp.ifsT_snoc, List.length_take, Nat.min_eq_left (by rw [← HNi.out]; exact ha)])
            have hlt1' : (a : Int) < (ni : Int) := by omega
            clear hy hoky hc1
            rcases Nat.eq_zero_or_pos a with h0 | h0
            · have HTk0 : Hid (⟨(ACC ++ HD ++ Pp.ifsT false (x.ifaces.take (a + 1))).toArray⟩ = S1 ++ ⟨#[32, 105, 109, 112, 108, 101, 109, 101, 110, 116, 115, 32]⟩ ++ YB) := hide (by rw [HTk.out, HS1.out, hYB, if_neg (by omega), str_app, str_app]; simp [Pp.ifsH])
              have h0' : ¬ ((0 : Int) < (a : Int)) := by omega
              clear h0 hYB
              go_wp2_with fail
              go_roundw
              case rel => exact ⟨a + 1, _, by omega, by go_num, rfl, HBr1, hide HTk0.out.symm, by simp only [ByteArray.size_append]; show S1.size + 12 + YB.size ≤ _; omega⟩
              case measure => simp [intOf]; omega
            · have HTk0 : Hid (⟨(ACC ++ HD ++ Pp.ifsT false (x.ifaces.take (a + 1))).toArray⟩ = S1 ++ ⟨#[32, 44, 32]⟩ ++ YB) := hide (by rw [HTk.out, HS1.out, hYB, if_pos h0, str_app, str_app]; simp [Pp.ifsH])
              have h0' : ((0 : Int) < (a : Int)) := by omega
              clear h0 hYB
              go_wp2_with fail
              go_roundw
              case rel => exact ⟨a + 1, _, by omega, by go_num, rfl, HBr1, hide HTk0.out.symm, by simp only [ByteArray.size_append]; show S1.size + 3 + YB.size ≤ _; omega⟩
              case measure => simp [intOf]; omega
          · have han : a = ni := by omega
            subst han
            obtain ⟨PA, hPA⟩ : ∃ q, q = ACC ++ HD ++ Pp.ifsT false x.ifaces ++ [32, 123, 10] := ⟨_, rfl⟩
            have HPA := hide hPA
            have HS1e : Hid (⟨PA.toArray⟩ = S1 ++ ⟨#[32, 123, 10]⟩) := hide (by rw [hPA, HS1.out, List.take_of_length_le (by rw [← HNi.out]; exact Nat.le_refl _), str_app])
            have hnl : ¬ ((a : Int) < (a : Int)) := by omega
            have hz1' : S1.size ≤ 30000 * k + 300 := by omega
            have q4 := cell_box (HC.out wr HBr1.out) 4
            clear HS1 hPA hz1
            go_wp2_with fail
            obtain ⟨wI, rfl⟩ : ∃ q, q = wr := ⟨_, rfl⟩
            clear q1 q3 q4
            go_loopw [3, 7] (fun s i wr => ∃ (b : Nat) (S2 : ByteArray), b ≤ nf ∧ i = .int .i64 b ∧ s = .string S2 ∧ Hid (Below wc.heap.size wc wr) ∧ Hid (S2 = ⟨(PA ++ (x.fields.take b).flatMap Pp.fldT).toArray⟩) ∧ S2.size ≤ 30000 * k + 310 + 80 * b) (fun s i _ => nf - (intOf i).toNat)
            case atStart => exact ⟨0, _, Nat.zero_le _, rfl, rfl, HBr1, hide (by rw [← HS1e.out]; simp), by simp only [ByteArray.size_append]; show S1.size + 3 ≤ _; omega⟩
            case round =>
            obtain ⟨b, S2, hb2, rfl, rfl, HBr2, HS2, hz2⟩ := hrel
            have HBw2 := hide (HBk0.out.trans ((HBk.out.trans (HBr2.out.mono HBk.out.size)).mono HBk0.out.size))
            by_cases hltf : b < nf
            · obtain ⟨f, hx2⟩ : ∃ f, x.fields[b]? = some f := ⟨x.fields[b]'(by rw [← HNf.out]; exact hltf), List.getElem?_eq_getElem _⟩
              have hokf := HOkx.out.2.2.2.1.2 f (List.mem_of_getElem? hx2)
              obtain ⟨g2, o2, eg2, ys2, wf, hc2⟩ := Sh.row_at2 HRf.out hx2
              subst eg2
              obtain ⟨fnm, ⟨fk, ftn⟩, fst⟩ := f
              obtain ⟨rfl, _⟩ := wf
              have hTW := hide (fun w' => refTypeWords_any ⟨fk, ftn⟩ hokf.2 w')
              obtain ⟨TB, hTB⟩ : ∃ q : ByteArray, q = ⟨(Pp.tws ⟨fk, ftn⟩).toArray⟩ := ⟨_, rfl⟩
              obtain ⟨FB, hFB⟩ : ∃ q : ByteArray, q = ⟨fnm.toArray⟩ := ⟨_, rfl⟩
              have htb : TB.size ≤ 24 := by rw [hTB, str_size]; exact tws_len hokf.2
              have hfb : FB.size ≤ 20 := by rw [hFB, str_size]; exact Lx.nameL_len _ hokf.1.1
              rw [← hTB] at hTW
              dsimp only at hTW
              clear hokf
              cases fst with
              | true =>
              have HTk : Hid (⟨(PA ++ (x.fields.take (b + 1)).flatMap Pp.fldT).toArray⟩ = S2 ++ ⟨#[115, 116, 97, 116, 105, 99, 32]⟩ ++ FB ++ ⟨#[32, 58, 32]⟩ ++ TB ++ ⟨#[32, 59, 10]⟩) := hide (by
                rw [List.take_add_one, hx2, HS2.out, hFB, hTB]
                simp [Pp.fldT, str_app])
              have hlt2 : (b : Int) < (nf : Int) := by omega
              have hK : Hid (∀ wx, Below wr.heap.size wr wx → wx.cell? ⟨bx, 4, none⟩ = some (.slice (some ⟨g2, o2, none⟩) nf fc) ∧ wx.cell? ⟨g2, o2 + b * 4, none⟩ = some (.string FB) ∧ wx.cell? ⟨g2, o2 + b * 4 + 1, none⟩ = some (.int .i64 fk) ∧ wx.cell? ⟨g2, o2 + b * 4 + 2, none⟩ = some (.string ⟨ftn.toArray⟩)) := hide fun wx hb => by
                have h1 := cell_box (HC.out wx (HBr2.out.trans (hb.mono HBr2.out.size))) 4
                have hw := HBw2.out.trans (hb.mono HBw2.out.size)
                have s0 := hc2 wx hw 0 _ rfl
                have s1 := hc2 wx hw 1 _ rfl
                have s2 := hc2 wx hw 2 _ rfl
                rw [Nat.add_zero] at s0
                dsimp only at s0 s1 s2
                rw [← hFB] at s0
                exact ⟨h1, s0, s1, s2⟩
              have q4 := (hK.out wr (Below.refl _ _)).1
              have r3 := hc2 wr HBw2.out 3 _ rfl
              dsimp only at r3
              have fz0 : ¬ 9223372036854775800 < S2.size := by omega
              have gz0 : ¬ 9223372036854775807 < S2.size + 7 := by omega
              have hz0 : S2.size ≤ 9223372036854775800 := by omega
              have iz0 : S2.size + 7 ≤ 9223372036854775807 := by omega
              have fz1 : ¬ 9223372036854775807 < S2.size + 7 + FB.size := by omega
              have fz2 : ¬ 9223372036854775804 < S2.size + 7 + FB.size := by omega
              have gz2 : ¬ 9223372036854775807 < S2.size + 7 + FB.size + 3 := by omega
              have hz2 : S2.size + 7 + FB.size ≤ 9223372036854775804 := by omega
              have iz2 : S2.size + 7 + FB.size + 3 ≤ 9223372036854775807 := by omega
              have fz3 : ¬ 9223372036854775807 < S2.size + 7 + FB.size + 3 + TB.size := by omega
              have fz4 : ¬ 9223372036854775804 < S2.size + 7 + FB.size + 3 + TB.size := by omega
              have gz4 : ¬ 9223372036854775807 < S2.size + 7 + FB.size + 3 + TB.size + 3 := by omega
              have hz4 : S2.size + 7 + FB.size + 3 + TB.size ≤ 9223372036854775804 := by omega
              have iz4 : S2.size + 7 + FB.size + 3 + TB.size + 3 ≤ 9223372036854775807 := by omega
              clear hx2 hc2 hFB hTB
              have HBz : Hid (Below wr.heap.size wr wr.drew) := hide (Below.drew (Below.refl _ _))
              go_wp2_with fail
              clear q4 r3
              go_region_held3 (fun wx => wx.cell? ⟨bx, 4, none⟩ = some (.slice (some ⟨g2, o2, none⟩) nf fc) ∧ wx.cell? ⟨g2, o2 + b * 4, none⟩ = some (.string FB) ∧ wx.cell? ⟨g2, o2 + b * 4 + 1, none⟩ = some (.int .i64 fk) ∧ wx.cell? ⟨g2, o2 + b * 4 + 2, none⟩ = some (.string ⟨ftn.toArray⟩)) (exact hK.out _ HBz.out)
                (first
                  | (go_at_call 30
                     refine (hTW.out _).mono ?_
                     rintro e w6 ⟨rfl, hb6⟩
                     have HBz := hide (HBz.out.trans (hb6.mono HBz.out.size))
                     clear hb6)
                  | fail)
              all_goals go_wp2_with fail
              all_goals go_roundw
              case rel => exact ⟨b + 1, _, by omega, by go_num, rfl, hide (HBr2.out.trans (HBz.out.mono HBr2.out.size)), hide HTk.out.symm, by simp only [ByteArray.size_append]; show S2.size + 7 + FB.size + 3 + TB.size + 3 ≤ _; omega⟩
              case measure => simp [intOf]; omega
              | false =>
              have HTk : Hid (⟨(PA ++ (x.fields.take (b + 1)).flatMap Pp.fldT).toArray⟩ = S2 ++ ⟨#[102, 105, 101, 108, 100, 32]⟩ ++ FB ++ ⟨#[32, 58, 32]⟩ ++ TB ++ ⟨#[32, 59, 10]⟩) := hide (by
                rw [List.take_add_one, hx2, HS2.out, hFB, hTB]
                simp [Pp.fldT, str_app])
              have hlt2 : (b : Int) < (nf : Int) := by omega
              have hK : Hid (∀ wx, Below wr.heap.size wr wx → wx.cell? ⟨bx, 4, none⟩ = some (.slice (some ⟨g2, o2, none⟩) nf fc) ∧ wx.cell? ⟨g2, o2 + b * 4, none⟩ = some (.string FB) ∧ wx.cell? ⟨g2, o2 + b * 4 + 1, none⟩ = some (.int .i64 fk) ∧ wx.cell? ⟨g2, o2 + b * 4 + 2, none⟩ = some (.string ⟨ftn.toArray⟩)) := hide fun wx hb => by
                have h1 := cell_box (HC.out wx (HBr2.out.trans (hb.mono HBr2.out.size))) 4
                have hw := HBw2.out.trans (hb.mono HBw2.out.size)
                have s0 := hc2 wx hw 0 _ rfl
                have s1 := hc2 wx hw 1 _ rfl
                have s2 := hc2 wx hw 2 _ rfl
                rw [Nat.add_zero] at s0
                dsimp only at s0 s1 s2
                rw [← hFB] at s0
                exact ⟨h1, s0, s1, s2⟩
              have q4 := (hK.out wr (Below.refl _ _)).1
              have r3 := hc2 wr HBw2.out 3 _ rfl
              dsimp only at r3
              have fz0 : ¬ 9223372036854775801 < S2.size := by omega
              have gz0 : ¬ 9223372036854775807 < S2.size + 6 := by omega
              have hz0 : S2.size ≤ 9223372036854775801 := by omega
              have iz0 : S2.size + 6 ≤ 9223372036854775807 := by omega
              have fz1 : ¬ 9223372036854775807 < S2.size + 6 + FB.size := by omega
              have fz2 : ¬ 9223372036854775804 < S2.size + 6 + FB.size := by omega
              have gz2 : ¬ 9223372036854775807 < S2.size + 6 + FB.size + 3 := by omega
              have hz2 : S2.size + 6 + FB.size ≤ 9223372036854775804 := by omega
              have iz2 : S2.size + 6 + FB.size + 3 ≤ 9223372036854775807 := by omega
              have fz3 : ¬ 9223372036854775807 < S2.size + 6 + FB.size + 3 + TB.size := by omega
              have fz4 : ¬ 9223372036854775804 < S2.size + 6 + FB.size + 3 + TB.size := by omega
              have gz4 : ¬ 9223372036854775807 < S2.size + 6 + FB.size + 3 + TB.size + 3 := by omega
              have hz4 : S2.size + 6 + FB.size + 3 + TB.size ≤ 9223372036854775804 := by omega
              have iz4 : S2.size + 6 + FB.size + 3 + TB.size + 3 ≤ 9223372036854775807 := by omega
              clear hx2 hc2 hFB hTB
              have HBz : Hid (Below wr.heap.size wr wr.drew) := hide (Below.drew (Below.refl _ _))
              go_wp2_with fail
              clear q4 r3
              go_region_held3 (fun wx => wx.cell? ⟨bx, 4, none⟩ = some (.slice (some ⟨g2, o2, none⟩) nf fc) ∧ wx.cell? ⟨g2, o2 + b * 4, none⟩ = some (.string FB) ∧ wx.cell? ⟨g2, o2 + b * 4 + 1, none⟩ = some (.int .i64 fk) ∧ wx.cell? ⟨g2, o2 + b * 4 + 2, none⟩ = some (.string ⟨ftn.toArray⟩)) (exact hK.out _ HBz.out)
                (first
                  | (go_at_call 30
                     refine (hTW.out _).mono ?_
                     rintro e w6 ⟨rfl, hb6⟩
                     have HBz := hide (HBz.out.trans (hb6.mono HBz.out.size))
                     clear hb6)
                  | fail)
              all_goals go_wp2_with fail
              all_goals go_roundw
              case rel => exact ⟨b + 1, _, by omega, by go_num, rfl, hide (HBr2.out.trans (HBz.out.mono HBr2.out.size)), hide HTk.out.symm, by simp only [ByteArray.size_append]; show S2.size + 6 + FB.size + 3 + TB.size + 3 ≤ _; omega⟩
              case measure => simp [intOf]; omega
            · have hbn : b = nf := by omega
              subst hbn
              obtain ⟨PB, hPB⟩ : ∃ q, q = PA ++ x.fields.flatMap Pp.fldT := ⟨_, rfl⟩
              have HPB := hide hPB
              have HS2e : Hid (S2 = ⟨PB.toArray⟩) := hide (by rw [hPB, HS2.out, List.take_of_length_le (by rw [← HNf.out]; exact Nat.le_refl _)])
              have hnl2 : ¬ ((b : Int) < (b : Int)) := by omega
              have hz2' : S2.size ≤ 30000 * k + 800 := by omega
              have q4 := cell_box (HC.out wr HBr2.out) 4
              have q5 := cell_box (HC.out wr HBr2.out) 5
              clear HS2 hPB hz2 HBw2
              go_wp2_with fail
              obtain ⟨wF, rfl⟩ : ∃ q, q = wr := ⟨_, rfl⟩
              clear q4 q5
              go_loopw [3, 9] (fun s i wr => ∃ (d : Nat) (S3 : ByteArray), d ≤ nm ∧ i = .int .i64 d ∧ s = .string S3 ∧ Hid (Below wc.heap.size wc wr) ∧ Hid (S3 = ⟨(PB ++ ((x.methods.map Pp.XMth.toP).take d).flatMap Pp.mthT).toArray⟩) ∧ S3.size ≤ 30000 * k + 800 + 4500 * d) (fun s i _ => nm - (intOf i).toNat)
              case atStart => exact ⟨0, _, Nat.zero_le _, rfl, rfl, HBr2, hide (by rw [HS2e.out]; simp), by omega⟩
              case round =>
              obtain ⟨d, S3, hd, rfl, rfl, HBr3, HS3, hz3⟩ := hrel
              have q5 := cell_box (HC.out wr HBr3.out) 5
              by_cases hltm : d < nm
              · obtain ⟨m, hx3⟩ : ∃ m, x.methods[d]? = some m := ⟨x.methods[d]'(by rw [← HNm.out]; exact hltm), List.getElem?_eq_getElem _⟩
                have hokm : Pp.okMth m.toP := HOkx.out.2.2.2.2.2 _ (List.mem_map_of_mem (List.mem_of_getElem? hx3))
                have hposm := HPosx.out m (List.mem_of_getElem? hx3)
                obtain ⟨g3, o3, eg3, ys3, wm, hc3⟩ := Sh.row_at2 HRm.out hx3
                subst eg3
                have HBw3 := HBk0.out.trans ((HBk.out.trans (HBr3.out.mono HBk.out.size)).mono HBk0.out.size)
                have hMT := hide (methodText_any m ys3 wr (wm.on HBw3) hokm hposm)
                obtain ⟨MB, hMB⟩ : ∃ q : ByteArray, q = ⟨(Pp.mthT m.toP).toArray⟩ := ⟨_, rfl⟩
                have hmb : MB.size ≤ 4500 := by rw [hMB, str_size]; exact mthT_len hokm
                rw [← hMB] at hMT
                have HTk : Hid (⟨(PB ++ ((x.methods.map Pp.XMth.toP).take (d + 1)).flatMap Pp.mthT).toArray⟩ = S3 ++ MB) := hide (by
                  rw [List.take_add_one, List.getElem?_map, hx3, HS3.out, hMB, str_app]; simp)
                obtain ⟨vp, vc, vk, rfl, x1, x2, x3, _⟩ := wm
                obtain ⟨va1, vd1, rfl, _⟩ := x1.len
                obtain ⟨va2, vd2, rfl, _⟩ := x2.len
                obtain ⟨va3, vd3, rfl, _⟩ := x3.len
                have r0 := hc3 wr HBw3 0 _ rfl
                have r1 := hc3 wr HBw3 1 _ rfl
                have r2 := hc3 wr HBw3 2 _ rfl
                have r3 := hc3 wr HBw3 3 _ rfl
                have r4 := hc3 wr HBw3 4 _ rfl
                have r5 := hc3 wr HBw3 5 _ rfl
                have r6 := hc3 wr HBw3 6 _ rfl
                have r7 := hc3 wr HBw3 7 _ rfl
                have r8 := hc3 wr HBw3 8 _ rfl
                rw [Nat.add_zero] at r0
                have hltm' : (d : Int) < (nm : Int) := by omega
                clear hx3 hokm hposm hc3 HBw3 hMB x1 x2 x3
                simp only [mthXL] at hMT
                go_wp2_with fail
                refine hMT.out.mono ?_
                rintro e w6 ⟨rfl, hb6⟩
                have HB6 := hide (HBr3.out.trans (hb6.mono HBr3.out.size))
                clear hb6 hMT r0 r1 r2 r3 r4 r5 r6 r7 r8
                go_wp2_with fail
                go_roundw
                case rel => exact ⟨d + 1, _, by omega, by go_num, rfl, HB6, hide HTk.out.symm, by simp only [ByteArray.size_append]; omega⟩
                case measure => simp [intOf]; omega
              · have hdn : d = nm := by omega
                subst hdn
                have HSe : Hid (⟨(((cs.map Pp.XCls.toP).take (k + 1)).flatMap Pp.clsT).toArray⟩ = S3 ++ ⟨#[125, 10]⟩) := hide (by
                  rw [HTx.out, HS3.out, List.take_of_length_le (by rw [List.length_map, ← HNm.out]; exact Nat.le_refl _), str_app, HPB.out, HPA.out, HHD.out]
                  unfold Pp.clsT
                  rw [show x.toP.iface = false from HIC.out]
                  simp [Pp.XCls.toP])
                have hnl3 : ¬ ((d : Int) < (d : Int)) := by omega
                go_wp2_with fail
                go_roundw
                case rel => exact ⟨k + 1, _, by omega, by go_num, rfl, hide (HBk.out.trans (HBr3.out.mono HBk.out.size)), hide HSe.out.symm, by simp only [ByteArray.size_append]; show S3.size + 2 ≤ _; omega⟩
                case measure => simp [intOf]; omega

      | true =>
        have HEh : Hid (⟨(ACC ++ HD).toArray⟩ = S ++ ⟨#[105, 110, 116, 101, 114, 102, 97, 99, 101, 32]⟩ ++ NB ++ ⟨#[32, 101, 120, 116, 101, 110, 100, 115, 32]⟩ ++ SB) := hide (by
          rw [hHD, HS.out, hNB, hSB]
          unfold Pp.clsH
          rw [show x.toP.iface = true from hic, show x.toP.name = x.name from rfl, show x.toP.super = x.super from rfl, if_neg hsup]
          simp [str_app])
        have HIC : Hid (x.iface = true) := hide hic
        rw [← hSB] at r2
        rw [hic] at r1
        have hcc := heap_alloc_new wr (.cells #[.string NB, .bool true, .string SB, .slice ia ni ic, .slice fa nf fc, .slice ma nm mc] 48)
        have HBc := hide ((Below.refl wr.heap.size wr).alloc (Nat.le_refl _) (.cells #[.string NB, .bool true, .string SB, .slice ia ni ic, .slice fa nf fc, .slice ma nm mc] 48))
        have b0 := cell_box hcc 0
        have b1 := cell_box hcc 1
        have b2 := cell_box hcc 2
        have b3 := cell_box hcc 3
        clear hHD HS hNB hSB hic 
        go_wp2_with fail
        clear r0 r1 r2 r3 r4 r5 b0 b1 b2 b3
        generalize wr.alloc (.cells #[.string NB, .bool true, .string SB, .slice ia ni ic, .slice fa nf fc, .slice ma nm mc] 48) = wc at *
        have HC : Hid (∀ wx, Below wc.heap.size wc wx → wx.heap[wr.heap.size]? = some (.cells #[.string NB, .bool true, .string SB, .slice ia ni ic, .slice fa nf fc, .slice ma nm mc] 48 (0, 0))) := hide fun wx hb => (hb.block _ (Sh.lt_of_blk hcc)).trans hcc
        clear hcc
        have HBk := hide (HBr.out.trans (HBc.out.mono HBr.out.size))
        generalize wr.heap.size = bx at HC ⊢
        obtain ⟨wB, rfl⟩ : ∃ q, q = wr := ⟨_, rfl⟩
        go_loopw [3, 6] (fun s i wr => ∃ (a : Nat) (S1 : ByteArray), a ≤ ni ∧ i = .int .i64 a ∧ s = .string S1 ∧ Hid (Below wc.heap.size wc wr) ∧ Hid (S1 = ⟨(ACC ++ HD ++ Pp.ifsT true (x.ifaces.take a)).toArray⟩) ∧ S1.size ≤ 30000 * k + 100 + 40 * a) (fun s i _ => ni - (intOf i).toNat)
        case atStart => exact ⟨0, _, Nat.zero_le _, rfl, rfl, hide (Below.refl _ _), hide (by rw [← HEh.out]; simp [Pp.ifsT]), by simp only [ByteArray.size_append]; show S.size + 10 + NB.size + 9 + SB.size ≤ _; omega⟩
        case round =>
          obtain ⟨a, S1, ha, rfl, rfl, HBr1, HS1, hz1⟩ := hrel
          have q3 := cell_box (HC.out wr HBr1.out) 3
          have q1 := cell_box (HC.out wr HBr1.out) 1
          by_cases hlt1 : a < ni
          · obtain ⟨y, hy⟩ : ∃ y, x.ifaces[a]? = some y := ⟨x.ifaces[a]'(by rw [← HNi.out]; exact hlt1), List.getElem?_eq_getElem _⟩
            have hoky := HOkx.out.2.2.1.2 y (List.mem_of_getElem? hy)
            obtain ⟨g1, o1, eg1, ys1, wy, hc1⟩ := Sh.row_at2 HRi.out hy
            subst eg1
            obtain ⟨rfl, _⟩ := wy
            have r0 := hc1 wr (HBk0.out.trans ((HBk.out.trans (HBr1.out.mono HBk.out.size)).mono HBk0.out.size)) 0 _ rfl
            rw [Nat.add_zero, Nat.mul_one] at r0
            obtain ⟨YB, hYB⟩ : ∃ q : ByteArray, q = ⟨y.toArray⟩ := ⟨_, rfl⟩
            have hyb : YB.size ≤ 20 := by rw [hYB, str_size]; exact Lx.nameL_len _ hoky.1
            rw [← hYB] at r0
            have HTk : Hid (Pp.ifsT true (x.ifaces.take (a + 1)) = Pp.ifsT true (x.ifaces.take a) ++ ((if 0 < a then [32, 44, 32] else Pp.ifsH true) ++ y)) := hide (by
              rw [List.take_add_one, hy]
              show Pp.ifsT true (x.ifaces.take a ++ [y]) = _
              rw [Pp.ifsT_snoc, List.length_take, Nat.min_eq_left (by rw [← HNi.out]; exact ha)])
            have hlt1' : (a : Int) < (ni : Int) := by omega
            clear hy hoky hc1
            rcases Nat.eq_zero_or_pos a with h0 | h0
            · have HTk0 : Hid (⟨(ACC ++ HD ++ Pp.ifsT true (x.ifaces.take (a + 1))).toArray⟩ = S1 ++ ⟨#[32, 101, 120, 116, 101, 110, 100, 115, 32]⟩ ++ YB) := hide (by rw [HTk.out, HS1.out, hYB, if_neg (by omega), str_app, str_app]; simp [Pp.ifsH])
              have h0' : ¬ ((0 : Int) < (a : Int)) := by omega
              clear h0 hYB
              go_wp2_with fail
              go_roundw
              case rel => exact ⟨a + 1, _, by omega, by go_num, rfl, HBr1, hide HTk0.out.symm, by simp only [ByteArray.size_append]; show S1.size + 9 + YB.size ≤ _; omega⟩
              case measure => simp [intOf]; omega
            · have HTk0 : Hid (⟨(ACC ++ HD ++ Pp.ifsT true (x.ifaces.take (a + 1))).toArray⟩ = S1 ++ ⟨#[32, 44, 32]⟩ ++ YB) := hide (by rw [HTk.out, HS1.out, hYB, if_pos h0, str_app, str_app]; simp [Pp.ifsH])
              have h0' : ((0 : Int) < (a : Int)) := by omega
              clear h0 hYB
              go_wp2_with fail
              go_roundw
              case rel => exact ⟨a + 1, _, by omega, by go_num, rfl, HBr1, hide HTk0.out.symm, by simp only [ByteArray.size_append]; show S1.size + 3 + YB.size ≤ _; omega⟩
              case measure => simp [intOf]; omega
          · have han : a = ni := by omega
            subst han
            obtain ⟨PA, hPA⟩ : ∃ q, q = ACC ++ HD ++ Pp.ifsT true x.ifaces ++ [32, 123, 10] := ⟨_, rfl⟩
            have HPA := hide hPA
            have HS1e : Hid (⟨PA.toArray⟩ = S1 ++ ⟨#[32, 123, 10]⟩) := hide (by rw [hPA, HS1.out, List.take_of_length_le (by rw [← HNi.out]; exact Nat.le_refl _), str_app])
            have hnl : ¬ ((a : Int) < (a : Int)) := by omega
            have hz1' : S1.size ≤ 30000 * k + 300 := by omega
            have q4 := cell_box (HC.out wr HBr1.out) 4
            clear HS1 hPA hz1
            go_wp2_with fail
            obtain ⟨wI, rfl⟩ : ∃ q, q = wr := ⟨_, rfl⟩
            clear q1 q3 q4
            go_loopw [3, 7] (fun s i wr => ∃ (b : Nat) (S2 : ByteArray), b ≤ nf ∧ i = .int .i64 b ∧ s = .string S2 ∧ Hid (Below wc.heap.size wc wr) ∧ Hid (S2 = ⟨(PA ++ (x.fields.take b).flatMap Pp.fldT).toArray⟩) ∧ S2.size ≤ 30000 * k + 310 + 80 * b) (fun s i _ => nf - (intOf i).toNat)
            case atStart => exact ⟨0, _, Nat.zero_le _, rfl, rfl, HBr1, hide (by rw [← HS1e.out]; simp), by simp only [ByteArray.size_append]; show S1.size + 3 ≤ _; omega⟩
            case round =>
            obtain ⟨b, S2, hb2, rfl, rfl, HBr2, HS2, hz2⟩ := hrel
            have HBw2 := hide (HBk0.out.trans ((HBk.out.trans (HBr2.out.mono HBk.out.size)).mono HBk0.out.size))
            by_cases hltf : b < nf
            · obtain ⟨f, hx2⟩ : ∃ f, x.fields[b]? = some f := ⟨x.fields[b]'(by rw [← HNf.out]; exact hltf), List.getElem?_eq_getElem _⟩
              have hokf := HOkx.out.2.2.2.1.2 f (List.mem_of_getElem? hx2)
              obtain ⟨g2, o2, eg2, ys2, wf, hc2⟩ := Sh.row_at2 HRf.out hx2
              subst eg2
              obtain ⟨fnm, ⟨fk, ftn⟩, fst⟩ := f
              obtain ⟨rfl, _⟩ := wf
              have hTW := hide (fun w' => refTypeWords_any ⟨fk, ftn⟩ hokf.2 w')
              obtain ⟨TB, hTB⟩ : ∃ q : ByteArray, q = ⟨(Pp.tws ⟨fk, ftn⟩).toArray⟩ := ⟨_, rfl⟩
              obtain ⟨FB, hFB⟩ : ∃ q : ByteArray, q = ⟨fnm.toArray⟩ := ⟨_, rfl⟩
              have htb : TB.size ≤ 24 := by rw [hTB, str_size]; exact tws_len hokf.2
              have hfb : FB.size ≤ 20 := by rw [hFB, str_size]; exact Lx.nameL_len _ hokf.1.1
              rw [← hTB] at hTW
              dsimp only at hTW
              clear hokf
              cases fst with
              | true =>
              have HTk : Hid (⟨(PA ++ (x.fields.take (b + 1)).flatMap Pp.fldT).toArray⟩ = S2 ++ ⟨#[115, 116, 97, 116, 105, 99, 32]⟩ ++ FB ++ ⟨#[32, 58, 32]⟩ ++ TB ++ ⟨#[32, 59, 10]⟩) := hide (by
                rw [List.take_add_one, hx2, HS2.out, hFB, hTB]
                simp [Pp.fldT, str_app])
              have hlt2 : (b : Int) < (nf : Int) := by omega
              have hK : Hid (∀ wx, Below wr.heap.size wr wx → wx.cell? ⟨bx, 4, none⟩ = some (.slice (some ⟨g2, o2, none⟩) nf fc) ∧ wx.cell? ⟨g2, o2 + b * 4, none⟩ = some (.string FB) ∧ wx.cell? ⟨g2, o2 + b * 4 + 1, none⟩ = some (.int .i64 fk) ∧ wx.cell? ⟨g2, o2 + b * 4 + 2, none⟩ = some (.string ⟨ftn.toArray⟩)) := hide fun wx hb => by
                have h1 := cell_box (HC.out wx (HBr2.out.trans (hb.mono HBr2.out.size))) 4
                have hw := HBw2.out.trans (hb.mono HBw2.out.size)
                have s0 := hc2 wx hw 0 _ rfl
                have s1 := hc2 wx hw 1 _ rfl
                have s2 := hc2 wx hw 2 _ rfl
                rw [Nat.add_zero] at s0
                dsimp only at s0 s1 s2
                rw [← hFB] at s0
                exact ⟨h1, s0, s1, s2⟩
              have q4 := (hK.out wr (Below.refl _ _)).1
              have r3 := hc2 wr HBw2.out 3 _ rfl
              dsimp only at r3
              have fz0 : ¬ 9223372036854775800 < S2.size := by omega
              have gz0 : ¬ 9223372036854775807 < S2.size + 7 := by omega
              have hz0 : S2.size ≤ 9223372036854775800 := by omega
              have iz0 : S2.size + 7 ≤ 9223372036854775807 := by omega
              have fz1 : ¬ 9223372036854775807 < S2.size + 7 + FB.size := by omega
              have fz2 : ¬ 9223372036854775804 < S2.size + 7 + FB.size := by omega
              have gz2 : ¬ 9223372036854775807 < S2.size + 7 + FB.size + 3 := by omega
              have hz2 : S2.size + 7 + FB.size ≤ 9223372036854775804 := by omega
              have iz2 : S2.size + 7 + FB.size + 3 ≤ 9223372036854775807 := by omega
              have fz3 : ¬ 9223372036854775807 < S2.size + 7 + FB.size + 3 + TB.size := by omega
              have fz4 : ¬ 9223372036854775804 < S2.size + 7 + FB.size + 3 + TB.size := by omega
              have gz4 : ¬ 9223372036854775807 < S2.size + 7 + FB.size + 3 + TB.size + 3 := by omega
              have hz4 : S2.size + 7 + FB.size + 3 + TB.size ≤ 9223372036854775804 := by omega
              have iz4 : S2.size + 7 + FB.size + 3 + TB.size + 3 ≤ 9223372036854775807 := by omega
              clear hx2 hc2 hFB hTB
              have HBz : Hid (Below wr.heap.size wr wr.drew) := hide (Below.drew (Below.refl _ _))
              go_wp2_with fail
              clear q4 r3
              go_region_held3 (fun wx => wx.cell? ⟨bx, 4, none⟩ = some (.slice (some ⟨g2, o2, none⟩) nf fc) ∧ wx.cell? ⟨g2, o2 + b * 4, none⟩ = some (.string FB) ∧ wx.cell? ⟨g2, o2 + b * 4 + 1, none⟩ = some (.int .i64 fk) ∧ wx.cell? ⟨g2, o2 + b * 4 + 2, none⟩ = some (.string ⟨ftn.toArray⟩)) (exact hK.out _ HBz.out)
                (first
                  | (go_at_call 30
                     refine (hTW.out _).mono ?_
                     rintro e w6 ⟨rfl, hb6⟩
                     have HBz := hide (HBz.out.trans (hb6.mono HBz.out.size))
                     clear hb6)
                  | fail)
              all_goals go_wp2_with fail
              all_goals go_roundw
              case rel => exact ⟨b + 1, _, by omega, by go_num, rfl, hide (HBr2.out.trans (HBz.out.mono HBr2.out.size)), hide HTk.out.symm, by simp only [ByteArray.size_append]; show S2.size + 7 + FB.size + 3 + TB.size + 3 ≤ _; omega⟩
              case measure => simp [intOf]; omega
              | false =>
              have HTk : Hid (⟨(PA ++ (x.fields.take (b + 1)).flatMap Pp.fldT).toArray⟩ = S2 ++ ⟨#[102, 105, 101, 108, 100, 32]⟩ ++ FB ++ ⟨#[32, 58, 32]⟩ ++ TB ++ ⟨#[32, 59, 10]⟩) := hide (by
                rw [List.take_add_one, hx2, HS2.out, hFB, hTB]
                simp [Pp.fldT, str_app])
              have hlt2 : (b : Int) < (nf : Int) := by omega
              have hK : Hid (∀ wx, Below wr.heap.size wr wx → wx.cell? ⟨bx, 4, none⟩ = some (.slice (some ⟨g2, o2, none⟩) nf fc) ∧ wx.cell? ⟨g2, o2 + b * 4, none⟩ = some (.string FB) ∧ wx.cell? ⟨g2, o2 + b * 4 + 1, none⟩ = some (.int .i64 fk) ∧ wx.cell? ⟨g2, o2 + b * 4 + 2, none⟩ = some (.string ⟨ftn.toArray⟩)) := hide fun wx hb => by
                have h1 := cell_box (HC.out wx (HBr2.out.trans (hb.mono HBr2.out.size))) 4
                have hw := HBw2.out.trans (hb.mono HBw2.out.size)
                have s0 := hc2 wx hw 0 _ rfl
                have s1 := hc2 wx hw 1 _ rfl
                have s2 := hc2 wx hw 2 _ rfl
                rw [Nat.add_zero] at s0
                dsimp only at s0 s1 s2
                rw [← hFB] at s0
                exact ⟨h1, s0, s1, s2⟩
              have q4 := (hK.out wr (Below.refl _ _)).1
              have r3 := hc2 wr HBw2.out 3 _ rfl
              dsimp only at r3
              have fz0 : ¬ 9223372036854775801 < S2.size := by omega
              have gz0 : ¬ 9223372036854775807 < S2.size + 6 := by omega
              have hz0 : S2.size ≤ 9223372036854775801 := by omega
              have iz0 : S2.size + 6 ≤ 9223372036854775807 := by omega
              have fz1 : ¬ 9223372036854775807 < S2.size + 6 + FB.size := by omega
              have fz2 : ¬ 9223372036854775804 < S2.size + 6 + FB.size := by omega
              have gz2 : ¬ 9223372036854775807 < S2.size + 6 + FB.size + 3 := by omega
              have hz2 : S2.size + 6 + FB.size ≤ 9223372036854775804 := by omega
              have iz2 : S2.size + 6 + FB.size + 3 ≤ 9223372036854775807 := by omega
              have fz3 : ¬ 9223372036854775807 < S2.size + 6 + FB.size + 3 + TB.size := by omega
              have fz4 : ¬ 9223372036854775804 < S2.size + 6 + FB.size + 3 + TB.size := by omega
              have gz4 : ¬ 9223372036854775807 < S2.size + 6 + FB.size + 3 + TB.size + 3 := by omega
              have hz4 : S2.size + 6 + FB.size + 3 + TB.size ≤ 9223372036854775804 := by omega
              have iz4 : S2.size + 6 + FB.size + 3 + TB.size + 3 ≤ 9223372036854775807 := by omega
              clear hx2 hc2 hFB hTB
              have HBz : Hid (Below wr.heap.size wr wr.drew) := hide (Below.drew (Below.refl _ _))
              go_wp2_with fail
              clear q4 r3
              go_region_held3 (fun wx => wx.cell? ⟨bx, 4, none⟩ = some (.slice (some ⟨g2, o2, none⟩) nf fc) ∧ wx.cell? ⟨g2, o2 + b * 4, none⟩ = some (.string FB) ∧ wx.cell? ⟨g2, o2 + b * 4 + 1, none⟩ = some (.int .i64 fk) ∧ wx.cell? ⟨g2, o2 + b * 4 + 2, none⟩ = some (.string ⟨ftn.toArray⟩)) (exact hK.out _ HBz.out)
                (first
                  | (go_at_call 30
                     refine (hTW.out _).mono ?_
                     rintro e w6 ⟨rfl, hb6⟩
                     have HBz := hide (HBz.out.trans (hb6.mono HBz.out.size))
                     clear hb6)
                  | fail)
              all_goals go_wp2_with fail
              all_goals go_roundw
              case rel => exact ⟨b + 1, _, by omega, by go_num, rfl, hide (HBr2.out.trans (HBz.out.mono HBr2.out.size)), hide HTk.out.symm, by simp only [ByteArray.size_append]; show S2.size + 6 + FB.size + 3 + TB.size + 3 ≤ _; omega⟩
              case measure => simp [intOf]; omega
            · have hbn : b = nf := by omega
              subst hbn
              obtain ⟨PB, hPB⟩ : ∃ q, q = PA ++ x.fields.flatMap Pp.fldT := ⟨_, rfl⟩
              have HPB := hide hPB
              have HS2e : Hid (S2 = ⟨PB.toArray⟩) := hide (by rw [hPB, HS2.out, List.take_of_length_le (by rw [← HNf.out]; exact Nat.le_refl _)])
              have hnl2 : ¬ ((b : Int) < (b : Int)) := by omega
              have hz2' : S2.size ≤ 30000 * k + 800 := by omega
              have q4 := cell_box (HC.out wr HBr2.out) 4
              have q5 := cell_box (HC.out wr HBr2.out) 5
              clear HS2 hPB hz2 HBw2
              go_wp2_with fail
              obtain ⟨wF, rfl⟩ : ∃ q, q = wr := ⟨_, rfl⟩
              clear q4 q5
              go_loopw [3, 9] (fun s i wr => ∃ (d : Nat) (S3 : ByteArray), d ≤ nm ∧ i = .int .i64 d ∧ s = .string S3 ∧ Hid (Below wc.heap.size wc wr) ∧ Hid (S3 = ⟨(PB ++ ((x.methods.map Pp.XMth.toP).take d).flatMap Pp.mthT).toArray⟩) ∧ S3.size ≤ 30000 * k + 800 + 4500 * d) (fun s i _ => nm - (intOf i).toNat)
              case atStart => exact ⟨0, _, Nat.zero_le _, rfl, rfl, HBr2, hide (by rw [HS2e.out]; simp), by omega⟩
              case round =>
              obtain ⟨d, S3, hd, rfl, rfl, HBr3, HS3, hz3⟩ := hrel
              have q5 := cell_box (HC.out wr HBr3.out) 5
              by_cases hltm : d < nm
              · obtain ⟨m, hx3⟩ : ∃ m, x.methods[d]? = some m := ⟨x.methods[d]'(by rw [← HNm.out]; exact hltm), List.getElem?_eq_getElem _⟩
                have hokm : Pp.okMth m.toP := HOkx.out.2.2.2.2.2 _ (List.mem_map_of_mem (List.mem_of_getElem? hx3))
                have hposm := HPosx.out m (List.mem_of_getElem? hx3)
                obtain ⟨g3, o3, eg3, ys3, wm, hc3⟩ := Sh.row_at2 HRm.out hx3
                subst eg3
                have HBw3 := HBk0.out.trans ((HBk.out.trans (HBr3.out.mono HBk.out.size)).mono HBk0.out.size)
                have hMT := hide (methodText_any m ys3 wr (wm.on HBw3) hokm hposm)
                obtain ⟨MB, hMB⟩ : ∃ q : ByteArray, q = ⟨(Pp.mthT m.toP).toArray⟩ := ⟨_, rfl⟩
                have hmb : MB.size ≤ 4500 := by rw [hMB, str_size]; exact mthT_len hokm
                rw [← hMB] at hMT
                have HTk : Hid (⟨(PB ++ ((x.methods.map Pp.XMth.toP).take (d + 1)).flatMap Pp.mthT).toArray⟩ = S3 ++ MB) := hide (by
                  rw [List.take_add_one, List.getElem?_map, hx3, HS3.out, hMB, str_app]; simp)
                obtain ⟨vp, vc, vk, rfl, x1, x2, x3, _⟩ := wm
                obtain ⟨va1, vd1, rfl, _⟩ := x1.len
                obtain ⟨va2, vd2, rfl, _⟩ := x2.len
                obtain ⟨va3, vd3, rfl, _⟩ := x3.len
                have r0 := hc3 wr HBw3 0 _ rfl
                have r1 := hc3 wr HBw3 1 _ rfl
                have r2 := hc3 wr HBw3 2 _ rfl
                have r3 := hc3 wr HBw3 3 _ rfl
                have r4 := hc3 wr HBw3 4 _ rfl
                have r5 := hc3 wr HBw3 5 _ rfl
                have r6 := hc3 wr HBw3 6 _ rfl
                have r7 := hc3 wr HBw3 7 _ rfl
                have r8 := hc3 wr HBw3 8 _ rfl
                rw [Nat.add_zero] at r0
                have hltm' : (d : Int) < (nm : Int) := by omega
                clear hx3 hokm hposm hc3 HBw3 hMB x1 x2 x3
                simp only [mthXL] at hMT
                go_wp2_with fail
                refine hMT.out.mono ?_
                rintro e w6 ⟨rfl, hb6⟩
                have HB6 := hide (HBr3.out.trans (hb6.mono HBr3.out.size))
                clear hb6 hMT r0 r1 r2 r3 r4 r5 r6 r7 r8
                go_wp2_with fail
                go_roundw
                case rel => exact ⟨d + 1, _, by omega, by go_num, rfl, HB6, hide HTk.out.symm, by simp only [ByteArray.size_append]; omega⟩
                case measure => simp [intOf]; omega
              · have hdn : d = nm := by omega
                subst hdn
                have HSe : Hid (⟨(((cs.map Pp.XCls.toP).take (k + 1)).flatMap Pp.clsT).toArray⟩ = S3 ++ ⟨#[125, 10]⟩) := hide (by
                  rw [HTx.out, HS3.out, List.take_of_length_le (by rw [List.length_map, ← HNm.out]; exact Nat.le_refl _), str_app, HPB.out, HPA.out, HHD.out]
                  unfold Pp.clsT
                  rw [show x.toP.iface = true from HIC.out]
                  simp [Pp.XCls.toP])
                have hnl3 : ¬ ((d : Int) < (d : Int)) := by omega
                go_wp2_with fail
                go_roundw
                case rel => exact ⟨k + 1, _, by omega, by go_num, rfl, hide (HBk.out.trans (HBr3.out.mono HBk.out.size)), hide HSe.out.symm, by simp only [ByteArray.size_append]; show S3.size + 2 ≤ _; omega⟩
                case measure => simp [intOf]; omega

  · have hkn : k = n := by omega
    subst hkn
    have HSx : Hid (⟨TX.toArray⟩ = S) := hide (by rw [HS.out, List.take_of_length_le (by rw [List.length_map, ← HN.out]; exact Nat.le_refl _), HTX.out])
    have hnl : ¬ ((k : Int) < (k : Int)) := by omega
    go_wp2_with fail
    go_ret
    exact ⟨by rw [HSx.out]; rfl, HB0.out.trans (HBr.out.mono HB0.out.size)⟩

end Go.Proofs.YtdgfidaopkcjoaaDoor

/- What Kinds answers. -/
import Derived.Test.YtildjihgklgibabDoorHierL
namespace Go.Proofs.YtildjihgklgibabDoor
open Go.RowKit
set_option linter.unusedVariables false
set_option linter.unusedSimpArgs false
namespace Hr
def underB (cs : List Pp.XCls) (a b : Pp.Bs) : Bool := decide (errL cs = 0) && match growL (allL cs) (allL cs), placeL (allL cs) a, placeL (allL cs) b with
  | some up, some i, some j => i == j || j == 0 || farB up i j
  | _, _, _ => false
theorem underB_iff (cs : List Pp.XCls) (a b : Pp.Bs) : underB cs a b = true ↔ underQ cs a b := by
  unfold underB underQ
  by_cases he : errL cs = 0
  · cases hg : growL (allL cs) (allL cs) with
    | none => simp [he]
    | some up =>
      cases ha : placeL (allL cs) a with
      | none => simp [he]
      | some i =>
        cases hb : placeL (allL cs) b with
        | none => simp [he]
        | some j =>
          simp only [he, decide_true, Bool.true_and, Bool.or_eq_true, beq_iff_eq]
          rw [farB_iff (grow_low hg)]
          constructor
          · intro h; exact ⟨up, i, j, trivial, rfl, rfl, rfl, by rcases h with (h | h) | h <;> simp [h]⟩
          · rintro ⟨_, _, _, _, h1, h2, h3, h⟩
            cases h1; cases h2; cases h3
            rcases h with h | h | h <;> simp [h]
  · simp [he]
def kindsL (cs : List Pp.XCls) (nm : Pp.Bs) (l : List Pp.XCls) : List Pp.Bs := (l.filter fun c => !c.iface && underB cs c.name nm).map fun c => c.name
def kindsQ (cs : List Pp.XCls) (nm : Pp.Bs) : List Pp.Bs := kindsL cs nm cs
theorem kinds_yes {cs l : List Pp.XCls} {nm : Pp.Bs} {k : Nat} {x : Pp.XCls} (hx : l[k]? = some x) (h : x.iface = false ∧ underQ cs x.name nm) : kindsL cs nm (l.take (k + 1)) = kindsL cs nm (l.take k) ++ [x.name] := by
  unfold kindsL
  rw [List.take_add_one, hx, List.filter_append]
  simp [h.1, (underB_iff _ _ _).2 h.2]
theorem kinds_no {cs l : List Pp.XCls} {nm : Pp.Bs} {k : Nat} {x : Pp.XCls} (hx : l[k]? = some x) (h : ¬ (x.iface = false ∧ underQ cs x.name nm)) : kindsL cs nm (l.take (k + 1)) = kindsL cs nm (l.take k) := by
  unfold kindsL
  rw [List.take_add_one, hx, List.filter_append]
  have h' : (!x.iface && underB cs x.name nm) = false := by
    rw [← Bool.not_eq_true]
    intro h2
    rw [Bool.and_eq_true] at h2
    exact h ⟨by simpa using h2.1, (underB_iff _ _ _).1 h2.2⟩
  simp [h']
theorem kinds_len (cs l : List Pp.XCls) (nm : Pp.Bs) : (kindsL cs nm l).length ≤ l.length := by
  unfold kindsL; rw [List.length_map]; exact List.length_filter_le _ _
theorem kinds_none {cs : List Pp.XCls} {nm : Pp.Bs} (h : lookL cs nm = none) : kindsQ cs nm = [] := by
  unfold kindsQ kindsL
  rw [List.filter_eq_nil_iff.2 ?_]
  · rfl
  · intro c _ hd
    have hd : c.iface = false ∧ underQ cs c.name nm := by
      rw [Bool.and_eq_true] at hd
      exact ⟨by simpa using hd.1, (underB_iff _ _ _).1 hd.2⟩
    obtain ⟨_, up, i, j, he, _, _, hp, _⟩ := hd
    rw [lookL_yes he, hp] at h
    cases h
theorem all_at (cs : List Pp.XCls) (k : Nat) : (allL cs)[8 + k]? = cs[k]? := by
  unfold allL
  rw [List.getElem?_append_right (by show 8 ≤ 8 + k; omega)]
  show cs[8 + k - 8]? = _
  rw [Nat.add_sub_cancel_left]
theorem under_at {cs : List Pp.XCls} {up : List (List Nat)} {nm : Pp.Bs} {x : Pp.XCls} {i j : Nat} (he : errL cs = 0) (hg : growL (allL cs) (allL cs) = some up) (hx : (allL cs)[i]? = some x) (hp : placeL (allL cs) nm = some j) : underQ cs x.name nm ↔ (i = j ∨ j = 0 ∨ Far up i j) := by
  obtain ⟨_, ho, _⟩ := err_zero he
  have hi := ho i x hx
  constructor
  · rintro ⟨up', i', j', _, hg', h1, h2, h3⟩
    rw [hg] at hg'; cases hg'
    rw [hi] at h1; cases h1
    rw [hp] at h2; cases h2
    exact h3
  · intro h; exact ⟨up, i, j, he, hg, hi, hp, h⟩
end Hr

set_option maxRecDepth 100000 in
set_option maxHeartbeats 8000000 in
theorem Kinds_any (cs : List Pp.XCls) (v : Value) (nm : Pp.Bs) (w : World) (ht : TabS w) (h : ProgX w v cs) :
    Calls Tryd.prog 9 #[.agg #[v], .string ⟨nm.toArray⟩] w fun e w' => ∃ v', e = .returned v' ∧ Ow.OwnX w' w.heap.size 9 1 StrX v' (Hr.kindsQ cs nm) ∧ Below w.heap.size w w' := by
  have HG := hide (fun wx (hb : Below w.heap.size w wx) => look_any cs v nm w wx (ht.below hb) hb h)
  have HPr := hide h
  obtain ⟨pa, pc, rfl, _⟩ := h.1.len
  obtain ⟨n, hn'⟩ : ∃ n, n = cs.length := ⟨_, rfl⟩
  have HN := hide hn'
  rw [← hn'] at HG HPr ⊢
  clear h ht hn'
  have hx0 := hide (heap_alloc_new w (.cells #[.slice pa n pc] 24))
  have HB0 := hide ((Below.refl w.heap.size w).alloc (Nat.le_refl _) (.cells #[.slice pa n pc] 24))
  cases hl : Hr.lookL cs nm with
  | none =>
    have HQ := hide (Hr.kinds_none hl)
    rw [hl] at HG
    simp only [Hr.pairP] at HG
    clear hl
    generalize (⟨nm.toArray⟩ : ByteArray) = nb at *
    go_enter Tryd.func9, Tryd.ntmps9
    go_wp2_with fail
    refine (HG.out _ HB0.out).mono ?_
    rintro e w1 ⟨⟨a1, n1, c1, a2, n2, c2, rfl, _⟩, hb1⟩
    have HB1 := hide (HB0.out.trans (hb1.mono HB0.out.size))
    clear hb1 HG HB0
    go_wp2_with fail
    go_ret
    rw [HQ.out]
    exact ⟨_, rfl, Ow.OwnX.nil _ _ _ _ _, HB1.out.alloc HB1.out.size _⟩
  | some q =>
    obtain ⟨he, hp⟩ := Hr.lookL_some hl
    obtain ⟨cq, hcq, -⟩ := Hr.placeL_lt hp
    have HE := hide he
    have HPA := hide hp
    have HCq := hide hcq
    rw [hl] at HG
    simp only [Hr.pairP] at HG
    clear hl he hp hcq
    generalize (⟨nm.toArray⟩ : ByteArray) = nb at *
    go_enter Tryd.func9, Tryd.ntmps9
    go_wp2_with fail
    generalize w.alloc (.cells #[.slice pa n pc] 24) = w0 at *
    refine (HG.out _ HB0.out).mono ?_
    rintro e w1 ⟨⟨a1, n1, c1, a2, n2, c2, rfl, htr⟩, hb1⟩
    obtain ⟨up, htr⟩ := htr HE.out
    have HB1 := hide (HB0.out.trans (hb1.mono HB0.out.size))
    have HTx := hide (htr.x HB1.out)
    have hm : n1 = (Hr.allL cs).length := by
      obtain ⟨_, _, hsh⟩ := htr.all.shape
      injection hsh
    have HNL := hide hm
    have hqm : q < n1 := by rw [hm]; exact (List.getElem?_eq_some_iff.1 HCq.out).1
    have h8 : n1 = 8 + n := by rw [hm, HN.out, Hr.all_len]; rfl
    have h1000 : n1 ≤ 1000 := by rw [hm]; exact htr.top
    clear hm
    have HAl := hide ((Below.refl w1.heap.size w1).alloc (Nat.le_refl _) (.cells #[.slice a1 n1 c1, .slice a2 n2 c2] 63))
    have HXt := hide (heap_alloc_new w1 (.cells #[.slice a1 n1 c1, .slice a2 n2 c2] 63))
    have HXp := hide ((HAl.out.block w.heap.size (by have := Ow.lt_of_blk hx0.out; have := hb1.size; omega)).trans ((hb1.block _ (Ow.lt_of_blk hx0.out)).trans hx0.out))
    have HRa := hide (fun wx (hb : Below w1.heap.size w1 wx) => HTx.out.all.on hb fun _ _ h => h.on hb)
    have HUn := hide (fun wx (hb : Below w1.heap.size w1 wx) (lo : Nat) (h2 : lo < n1) => under_any n1 a1 c1 up (.slice a2 n2 c2) lo q wx ((by have := HTx.out.ups.on hb; rw [← HNL.out] at this; exact this)) h2 hqm)
    have HGr := hide HTx.out.grw
    clear htr hb1 HG HB0 HTx hx0
    have HB2 := hide (HB1.out.trans (HAl.out.mono HB1.out.size))
    have cp := cell_box HXp.out 0
    have hi8 : (n1 : Int) ≤ 8 + (n : Int) := by omega
    have hi7 : 8 + (n : Int) ≤ (n1 : Int) := by omega
    clear h8
    have hi9 : (n1 : Int) ≤ 1000 := by omega
    go_wp2_with fail
    clear cp
    generalize w1.alloc (.cells #[.slice a1 n1 c1, .slice a2 n2 c2] 63) = w2 at *
    have HCt : Hid (∀ wx, Below w2.heap.size w2 wx → wx.heap[w1.heap.size]? = some (.cells #[.slice a1 n1 c1, .slice a2 n2 c2] 63 (0, 0))) := hide fun wx hb => (hb.block _ (Ow.lt_of_blk HXt.out)).trans HXt.out
    obtain ⟨j0, hj, hj0, hj1, hj2⟩ := Ow.info_of Ow.i_str
    clear HXt HXp
    go_loopw [8, 9] (fun lv i wr => ∃ (k j : Nat) (acc : List Pp.Bs), k ≤ n ∧ j = 8 + k ∧ i = .int .i64 j ∧ Hid (Below w2.heap.size w2 wr) ∧ Hid (Ow.OwnX wr w2.heap.size 9 1 StrX lv acc) ∧ Hid (acc = Hr.kindsL cs nm (cs.take k))) (fun lv i _ => n1 - (intOf i).toNat)
    case atStart => exact ⟨0, 8, [], Nat.zero_le _, rfl, by first | rfl | (congr 1; omega), hide (Below.refl _ _), hide (Ow.OwnX.nil _ _ _ _ _), hide (by simp [Hr.kindsL])⟩
    case round =>
      obtain ⟨k, j, acc, hk, hjk, rfl, HBr, HO, HAc⟩ := hrel
      have HJK := hide hjk
      obtain ⟨la, lc, rfl⟩ := HO.out.shape
      have HW1 := hide (HAl.out.trans (HBr.out.mono HAl.out.size))
      have hjb : j ≤ n1 := by omega
      have q0 := cell_box (HCt.out wr HBr.out) 0
      by_cases hlt : j < n1
      · obtain ⟨x, hx⟩ : ∃ x, cs[k]? = some x := ⟨cs[k]'(by rw [← HN.out]; omega), List.getElem?_eq_getElem _⟩
        have hxa : (Hr.allL cs)[j]? = some x := by rw [hjk, Hr.all_at]; exact hx
        obtain ⟨g1, o1, eg1, ys1, w1', hc1⟩ := Hr.row_at (HRa.out wr HW1.out) hxa
        subst eg1
        have HCx := hide (hc1 wr (Below.refl _ _))
        have HUx := hide (Hr.under_at HE.out HGr.out hxa HPA.out)
        have HY := hide (fun h => Hr.kinds_yes (cs := cs) (nm := nm) hx h)
        have HNo := hide (fun h => Hr.kinds_no (cs := cs) (nm := nm) hx h)
        have HLx : Hid (x.name.length ≤ maxLen) := hide (by obtain ⟨_, _, _, _, _, _, _, hz, _⟩ := w1'; exact hz)
        have HLn : Hid (acc.length ≤ 1000) := hide (by rw [HAc.out]; have := Hr.kinds_len cs (cs.take k) nm; rw [List.length_take] at this; omega)
        have hxl : x.name.length ≤ maxLen := HLx.out
        obtain ⟨va1, vd1, va2, vd2, va3, vd3, rfl⟩ := Hr.at_c w1'
        have r0 := HCx.out 0 _ rfl
        have r1 := HCx.out 1 _ rfl
        have r2 := HCx.out 2 _ rfl
        have r3 := HCx.out 3 _ rfl
        have r4 := HCx.out 4 _ rfl
        have r5 := HCx.out 5 _ rfl
        rw [Nat.add_zero] at r0
        have hlt' : (j : Int) < (n1 : Int) := by omega
        have q1 := cell_box (HCt.out wr HBr.out) 1
        have htl := Ow.lt_of_blk (HCt.out wr HBr.out)
        have htn : w1.heap.size ≠ wr.heap.size := by omega
        have HBA := hide ((Below.refl wr.heap.size wr).alloc (Nat.le_refl _) (.cells #[.string ⟨x.name.toArray⟩, .bool x.iface, .string ⟨x.super.toArray⟩, .slice va1 x.ifaces.length vd1, .slice va2 x.fields.length vd2, .slice va3 x.methods.length vd3] 34))
        have HXb := hide (heap_alloc_new wr (.cells #[.string ⟨x.name.toArray⟩, .bool x.iface, .string ⟨x.super.toArray⟩, .slice va1 x.ifaces.length vd1, .slice va2 x.fields.length vd2, .slice va3 x.methods.length vd3] 34))
        clear hc1 HCx hx hxa w1' hjk
        cases hif : x.iface with
        | true =>
          have HAc' : Hid (acc = Hr.kindsL cs nm (cs.take (k + 1))) := hide (by rw [HNo.out (by rw [hif]; simp)]; exact HAc.out)
          rw [hif] at r1 HBA HXb
          clear HAc HY HNo HUx hif
          go_wp2_with fail
          go_roundw
          case rel => first | exact ⟨k + 1, j + 1, acc, by have := HJK.out; omega, by have := HJK.out; omega, by go_num, hide (HBr.out.trans (HBA.out.mono HBr.out.size)), hide (HO.out.on HBA.out fun _ _ h => h), HAc'⟩ | ((repeat apply Exists.intro); exact ⟨⟨k + 1, j + 1, acc, by have := HJK.out; omega, by have := HJK.out; omega, by go_num, hide (HBr.out.trans (HBA.out.mono HBr.out.size)), hide (HO.out.on HBA.out fun _ _ h => h), HAc'⟩, rfl⟩)
          case measure => simp [intOf]; omega
        | false =>
          rw [hif] at r1 HBA HXb
          have HIF := hide hif
          clear hif
          go_wp2_with fail
          refine (HUn.out _ (HW1.out.trans (HBA.out.mono HW1.out.size)) j hlt).mono ?_
          rintro e w5 ⟨hy, hb5⟩
          have HB5 := hide (HBA.out.trans (hb5.mono HBA.out.size))
          have HO5 := hide (HO.out.on HB5.out fun _ _ h => h)
          have HW5 := hide (HBr.out.trans (HB5.out.mono HBr.out.size))
          have HX5 := hide ((hb5.block wr.heap.size (Ow.lt_of_blk HXb.out)).trans HXb.out)
          have b0 := cell_box HX5.out 0
          clear hb5 r0 r1 r2 r3 r4 r5 q0 q1
          by_cases hun : j = q ∨ q = 0 ∨ Hr.Far up j q
          · have HAc' : Hid (acc ++ [x.name] = Hr.kindsL cs nm (cs.take (k + 1))) := hide (by rw [HY.out ⟨HIF.out, HUx.out.2 hun⟩, HAc.out])
            have hy := hy.t hun
            subst hy
            clear HAc HY HNo HUx hun HUn
            have hstr : StrX x.name [.string ⟨x.name.toArray⟩] := ⟨rfl, HLx.out⟩
            have HSt := hide hstr
            clear hstr
            go_wp2_with (at_builtin; refine Ow.wpList_app rfl (.tmp 48) (.tmp 51) 30 rfl Tryd.underlying30 hj hj0 hj1 hj2 (by decide) Ow.shp_str rfl (HO5.out.on ((Below.refl _ _).alloc (Nat.le_refl _) (.cells #[.string ⟨x.name.toArray⟩] 9)) fun _ _ h => h) rfl (Hr.row_one (sz := 1) (heap_alloc_new w5 (.cells #[.string ⟨x.name.toArray⟩] 9)) HSt.out) ?c1 (by decide) ?c2 ?_)
            case c1 => have := HLn.out; simp; omega
            case c2 => have := HW5.out.size; simp; omega
            · intro v' w10 hown hgrow
              have hb10 := Ow.bel_grown (HO5.out.on ((Below.refl _ _).alloc (Nat.le_refl _) (.cells #[.string ⟨x.name.toArray⟩] 9)) fun _ _ h => h) (by have := HW5.out.size; simp; omega) hgrow
              have HB10 := hide ((HW5.out.alloc HW5.out.size _).trans hb10)
              have HO10 := hide hown
              clear hown hgrow hb10 HO5 b0 HX5
              go_wp2_with fail
              go_roundw
              case rel => first | exact ⟨k + 1, j + 1, acc ++ [x.name], by have := HJK.out; omega, by have := HJK.out; omega, by go_num, HB10, HO10, HAc'⟩ | ((repeat apply Exists.intro); exact ⟨⟨k + 1, j + 1, acc ++ [x.name], by have := HJK.out; omega, by have := HJK.out; omega, by go_num, HB10, HO10, HAc'⟩, rfl⟩)
              case measure => simp [intOf]; omega
          · have HAc' : Hid (acc = Hr.kindsL cs nm (cs.take (k + 1))) := hide (by rw [HNo.out (fun h => hun (HUx.out.1 h.2))]; exact HAc.out)
            have hy := hy.f hun
            subst hy
            clear HAc HY HNo HUx hun HUn
            go_wp2_with fail
            go_roundw
            case rel => first | exact ⟨k + 1, j + 1, acc, by have := HJK.out; omega, by have := HJK.out; omega, by go_num, HW5, HO5, HAc'⟩ | ((repeat apply Exists.intro); exact ⟨⟨k + 1, j + 1, acc, by have := HJK.out; omega, by have := HJK.out; omega, by go_num, HW5, HO5, HAc'⟩, rfl⟩)
            case measure => simp [intOf]; omega
      · have HAe : Hid (acc = Hr.kindsQ cs nm) := hide (by rw [HAc.out, List.take_of_length_le (by rw [← HN.out]; omega)]; rfl)
        have hnl : ¬ ((j : Int) < (n1 : Int)) := by omega
        go_wp2_with fail
        go_ret
        rw [← HAe.out]
        exact ⟨_, rfl, HO.out.low HB2.out.size fun _ _ h => h, HB2.out.trans (HBr.out.mono HB2.out.size)⟩
end Go.Proofs.YtildjihgklgibabDoor

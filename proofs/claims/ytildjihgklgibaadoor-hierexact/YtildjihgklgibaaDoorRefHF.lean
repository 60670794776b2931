/- What the laws' names, and Find answer. -/
import Derived.Test.YtildjihgklgibaaDoorHierL
import Derived.Test.YtildjihgklgibaaDoorHierM
import Derived.Test.YtildjihgklgibaaDoorRefHD
namespace Go.Proofs.YtildjihgklgibaaDoor
open Go.RowKit
set_option linter.unusedVariables false
set_option linter.unusedSimpArgs false
namespace Hr
theorem light_all {cs : List Pp.XCls} (h : Pp.Light cs) : ∀ c ∈ allL cs, Pp.LtC c := by
  intro c hc
  rcases List.mem_append.1 hc with hc | hc
  · simp only [base, subs, List.map_cons, List.map_nil, List.mem_cons, List.not_mem_nil, or_false] at hc
    rcases hc with rfl | rfl | rfl | rfl | rfl | rfl | rfl | rfl <;> exact ⟨⟨by decide, by decide, by decide, by decide, by decide⟩, (by intro x hx; cases hx), (by intro x hx; cases hx), (by intro x hx; cases hx)⟩
  · exact h.2 c hc
theorem light_len {cs : List Pp.XCls} (h : Pp.Light cs) : (allL cs).length ≤ 22 := by
  show (base ++ cs).length ≤ 22
  rw [List.length_append]; show 8 + cs.length ≤ 22; have := h.1; omega
def namesL (l : List Pp.XCls) : List Pp.Bs := l.map fun c => c.name
theorem names_take {l : List Pp.XCls} {k : Nat} {x : Pp.XCls} (h : l[k]? = some x) : namesL (l.take k) ++ [x.name] = namesL (l.take (k + 1)) := by
  unfold namesL; rw [List.take_add_one, h, List.map_append]; rfl
end Hr

set_option maxRecDepth 100000 in
set_option maxHeartbeats 8000000 in
theorem names_any (cs : List Pp.XCls) (v : Value) (w : World) (h : ProgX w v cs) (hl : Pp.Light cs) :
    Calls Tryd.prog 28 #[.agg #[v]] w fun e w' => ∃ v', e = .returned v' ∧ Ow.OwnX w' w.heap.size 9 1 StrX v' (Hr.namesL (Hr.allL cs)) ∧ Below w.heap.size w w' := by
  obtain ⟨i0, hj1, hj0, hj2, hj3⟩ := Ow.info_of Ow.i_str
  have HAl := hide (fun wx (hb : Below w.heap.size w wx) => All_any cs v wx (h.on hb) hl)
  have HM0 := hide (Hr.light_len hl)
  obtain ⟨pa, pc, rfl, _⟩ := h.1.len
  generalize cs.length = n at *
  clear h hl
  have HX := hide (heap_alloc_new w (.cells #[.slice pa n pc] 24))
  have HB0 := hide ((Below.refl w.heap.size w).alloc (Nat.le_refl _) (.cells #[.slice pa n pc] 24))
  go_enter Tryd.func28, Tryd.ntmps28
  go_wp2_with fail
  generalize w.alloc (.cells #[.slice pa n pc] 24) = w0 at *
  refine (HAl.out w0 HB0.out).mono ?_
  rintro e w1 ⟨vl, rfl, hol, hb1⟩
  have HW := hide (HB0.out.trans (hb1.mono HB0.out.size))
  have HRow := hide (hol.row Ow.shp_cls fun _ _ h => h.x)
  obtain ⟨la, lc, rfl⟩ := hol.shape
  obtain ⟨l, hl⟩ : ∃ l, l = Hr.allL cs := ⟨_, rfl⟩
  have HLL := hide hl
  rw [← hl] at HRow HM0 ⊢
  clear hl
  obtain ⟨m, hm⟩ : ∃ q, q = l.length := ⟨_, rfl⟩
  have HM := hide hm
  rw [← hm] at HRow HM0 ⊢
  have hm22 : m ≤ 22 := HM0.out
  clear hb1 hol hm HAl HB0 HX
  go_wp2_with fail
  go_loopw [4, 5] (fun ov i wr => ∃ k : Nat, k ≤ m ∧ i = .int .i64 k ∧ Hid (Below w1.heap.size w1 wr) ∧ Hid (Ow.OwnX wr w1.heap.size 9 1 StrX ov (Hr.namesL (l.take k)))) (fun ov i _ => m - (intOf i).toNat)
  case atStart => exact ⟨0, Nat.zero_le _, rfl, hide (Below.refl _ _), hide (Ow.OwnX.nil _ _ _ _ _)⟩
  case round =>
    obtain ⟨k, hk, rfl, HB, HO⟩ := hrel
    obtain ⟨oa, oc, rfl⟩ := HO.out.shape
    by_cases hlt : k < m
    · obtain ⟨x, hx⟩ : ∃ x, l[k]? = some x := ⟨l[k]'(by rw [← HM.out]; exact hlt), List.getElem?_eq_getElem _⟩
      obtain ⟨g1, o1, eg1, ys1, w1', hc1⟩ := Hr.row_at HRow.out hx
      subst eg1
      obtain ⟨vp, vc, vk, rfl, _, _, _, hnl, _⟩ := w1'
      have r0 := hc1 wr HB.out 0 _ rfl
      rw [Nat.add_zero] at r0
      have HNl := hide hnl
      have HTk := hide (Hr.names_take hx)
      have HLn : Hid ((Hr.namesL (l.take k)).length ≤ 22) := hide (by unfold Hr.namesL; rw [List.length_map, List.length_take]; omega)
      have hlt' : (k : Int) < (m : Int) := by omega
      have hmi : (m : Int) ≤ 22 := by omega
      clear hc1 hx hnl
      have hA := (Below.refl wr.heap.size wr).alloc (Nat.le_refl _) (.cells #[.string ⟨x.name.toArray⟩] 9)
      have HA := hide (HB.out.trans (hA.mono HB.out.size))
      have HO1 := hide (HO.out.on hA fun _ _ h => h)
      have HR1 : Hid (RowX (wr.alloc (.cells #[.string ⟨x.name.toArray⟩] 9)) 1 StrX (.slice (some ⟨wr.heap.size, 0, none⟩) 1 1) [x.name]) := hide (Hr.row_one (heap_alloc_new wr _) ⟨rfl, HNl.out⟩)
      generalize Hr.namesL (l.take k) = acc at *
      clear hA
      go_wp2_with (at_builtin; refine Ow.wpList_app rfl (.tmp 14) (.tmp 20) 29 rfl Tryd.underlying29 hj1 hj0 hj2 hj3 (by decide) Ow.shp_str rfl HO1.out rfl HR1.out ?c1 (by decide) HA.out.size ?_)
      case c1 => have := HLn.out; simp; omega
      · intro v' w10 hown hgrow
        have HB10 := hide (HA.out.trans (Ow.bel_grown HO1.out HA.out.size hgrow))
        have HO10 : Hid (Ow.OwnX w10 w1.heap.size 9 1 StrX v' (Hr.namesL (l.take (k + 1)))) := hide (by rw [← HTk.out]; exact hown)
        clear hown hgrow HO1 HR1 HA
        go_wp2_with fail
        go_roundw
        case rel => first | exact ⟨k + 1, by omega, by go_num, HB10, HO10⟩ | ((repeat apply Exists.intro); exact ⟨⟨k + 1, by omega, by go_num, HB10, HO10⟩, rfl⟩)
        case measure => simp [intOf]; omega
    · have hnl : ¬ ((k : Int) < (m : Int)) := by omega
      have HE : Hid (Hr.namesL (l.take k) = Hr.namesL l) := hide (by rw [List.take_of_length_le (by rw [← HM.out]; omega)])
      have HOe := hide (HO.out.low HW.out.size fun _ _ h => h)
      rw [HE.out] at HOe ⊢
      generalize (Hr.namesL l).length = q at *
      have HBe := hide (HW.out.trans (HB.out.mono HW.out.size))
      go_wp2_with fail
      go_ret
      rw [← HLL.out]
      exact ⟨_, rfl, HOe.out, HBe.out⟩

/-- What Find answers: the class of that name, or nothing. -/
def Hr.FindIs (w0 w : World) (base : Nat) (cs : List Pp.XCls) (nm : Pp.Bs) (e : Ending) : Prop :=
  match Hr.lookL cs nm with
  | none => e = .returned (.tuple #[.agg #[.string ⟨#[]⟩, .bool false, .string ⟨#[]⟩, .slice none 0 0, .slice none 0 0, .slice none 0 0], .bool false])
  | some k => ∃ c ys, (Hr.allL cs)[k]? = some c ∧ e = .returned (.tuple #[.agg ys.toArray, .bool true]) ∧ Ow.ClsO w base c ys

theorem Ow.sets6 {w : World} {n : Nat} {t : TypeId} (u0 u1 u2 u3 u4 u5 : Value) (h0 : Ow.Ty w n t) :
    Ow.Kx t w ((((((w.setCell ⟨n, 0, none⟩ u0).setCell ⟨n, 1, none⟩ u1).setCell ⟨n, 2, none⟩ u2).setCell ⟨n, 3, none⟩ u3).setCell ⟨n, 4, none⟩ u4).setCell ⟨n, 5, none⟩ u5) ∧
    Below n w ((((((w.setCell ⟨n, 0, none⟩ u0).setCell ⟨n, 1, none⟩ u1).setCell ⟨n, 2, none⟩ u2).setCell ⟨n, 3, none⟩ u3).setCell ⟨n, 4, none⟩ u4).setCell ⟨n, 5, none⟩ u5) := by
  have key : ∀ (k : Nat) (u : Value) (x : World), (Ow.Ty x n t ∧ Ow.Kx t w x ∧ Below n w x) → (Ow.Ty (x.setCell ⟨n, k, none⟩ u) n t ∧ Ow.Kx t w (x.setCell ⟨n, k, none⟩ u) ∧ Below n w (x.setCell ⟨n, k, none⟩ u)) := fun k u x h => ⟨h.1.set _ _ _, h.2.1.trans (Ow.Kx.set h.1 k u), h.2.2.trans ((Below.refl n x).setCell (p := ⟨n, k, none⟩) (Nat.le_refl n) u)⟩
  have a0 : Ow.Ty w n t ∧ Ow.Kx t w w ∧ Below n w w := ⟨h0, Ow.Kx.refl _ _, Below.refl _ _⟩
  exact (key 5 u5 _ (key 4 u4 _ (key 3 u3 _ (key 2 u2 _ (key 1 u1 _ (key 0 u0 _ a0)))))).2

set_option maxRecDepth 100000 in
set_option maxHeartbeats 8000000 in
theorem Find_any (cs : List Pp.XCls) (v : Value) (nm : Pp.Bs) (w : World) (ht : TabS w) (h : ProgX w v cs) (hl : Pp.Light cs) :
    Calls Tryd.prog 12 #[.agg #[v], .string ⟨nm.toArray⟩] w fun e w' => Hr.FindIs w w' w.heap.size cs nm e ∧ Below w.heap.size w w' := by
  have HG := hide (fun wx (hb : Below w.heap.size w wx) => look_any cs v nm w wx (ht.below hb) hb h)
  have HLt := hide (Hr.light_all hl)
  obtain ⟨pa, pc, rfl, _⟩ := h.1.len
  clear h ht hl
  generalize cs.length = n at *
  have hx1 := hide (Ow.blk_alloc2b w (.cells #[.slice pa n pc] 24) (.cells #[.string ⟨#[]⟩, .bool false, .string ⟨#[]⟩, .slice none 0 0, .slice none 0 0, .slice none 0 0] 33))
  have HB0 := hide (Ow.bel_alloc2 w (.cells #[.slice pa n pc] 24) (.cells #[.string ⟨#[]⟩, .bool false, .string ⟨#[]⟩, .slice none 0 0, .slice none 0 0, .slice none 0 0] 33))
  unfold Hr.FindIs
  cases hk : Hr.lookL cs nm with
  | none =>
    rw [hk] at HG
    simp only [Hr.pairP] at HG
    clear hk
    go_enter Tryd.func12, Tryd.ntmps12
    go_wp2_with fail
    generalize (w.alloc (.cells #[.slice pa n pc] 24)).alloc (.cells #[.string ⟨#[]⟩, .bool false, .string ⟨#[]⟩, .slice none 0 0, .slice none 0 0, .slice none 0 0] 33) = w0 at *
    refine (HG.out _ HB0.out).mono ?_
    rintro e w1 ⟨⟨a1, n1, c1, a2, n2, c2, rfl, _⟩, hb1⟩
    have HX1 := hide ((hb1.block _ (Ow.lt_of_blk hx1.out)).trans hx1.out)
    have HB1 := hide (HB0.out.trans (hb1.mono HB0.out.size))
    have hA := (Below.refl w1.heap.size w1).alloc (Nat.le_refl _) (.cells #[.slice a1 n1 c1, .slice a2 n2 c2] 73)
    have HX2 := hide ((hA.block _ (Ow.lt_of_blk HX1.out)).trans HX1.out)
    have HB2 := hide (HB1.out.trans (hA.mono HB1.out.size))
    have HS := hide (Ow.sets6 (.string ⟨#[]⟩) (.bool false) (.string ⟨#[]⟩) (.slice none 0 0) (.slice none 0 0) (.slice none 0 0) ⟨_, _, HX2.out⟩)
    have f0 := Ow.fz_blk HX2.out 0
    have f1 := Ow.fz_blk HX2.out 1
    have f2 := Ow.fz_blk HX2.out 2
    have f3 := Ow.fz_blk HX2.out 3
    have f4 := Ow.fz_blk HX2.out 4
    have f5 := Ow.fz_blk HX2.out 5
    have q0 := cell_box HX2.out 0
    have q1 := cell_box HX2.out 1
    have q2 := cell_box HX2.out 2
    have q3 := cell_box HX2.out 3
    have q4 := cell_box HX2.out 4
    have q5 := cell_box HX2.out 5
    have HB3 := hide (HB2.out.trans (HS.out.2.mono (Nat.le_succ _)))
    clear hA hb1 hx1 HX1 HG
    go_wp2_with fail
    refine bodyPost_ret (v := .tuple #[.agg #[.string ⟨#[]⟩, .bool false, .string ⟨#[]⟩, .slice none 0 0, .slice none 0 0, .slice none 0 0], .bool false]) (by simp [results, Tryd.results12, go_sem, *]) rfl ?_
    exact ⟨rfl, HB3.out⟩
  | some k =>
    obtain ⟨he, hp⟩ := Hr.lookL_some hk
    obtain ⟨c, hc, -, -⟩ := Hr.placeL_lt hp
    have HCc := hide hc
    have HE := hide he
    rw [hk] at HG
    simp only [Hr.pairP] at HG
    have HLc := hide (HLt.out c (List.mem_of_getElem? hc))
    clear hk he hp hc HLt
    go_enter Tryd.func12, Tryd.ntmps12
    go_wp2_with fail
    generalize (w.alloc (.cells #[.slice pa n pc] 24)).alloc (.cells #[.string ⟨#[]⟩, .bool false, .string ⟨#[]⟩, .slice none 0 0, .slice none 0 0, .slice none 0 0] 33) = w0 at *
    refine (HG.out _ HB0.out).mono ?_
    rintro e w1 ⟨⟨a1, n1, c1, a2, n2, c2, rfl, htr⟩, hb1⟩
    obtain ⟨up, htr⟩ := htr HE.out
    have HX1 := hide ((hb1.block _ (Ow.lt_of_blk hx1.out)).trans hx1.out)
    have HB1 := hide (HB0.out.trans (hb1.mono HB0.out.size))
    have HTx := hide (htr.x HB1.out)
    obtain ⟨hn1, hm1⟩ : n1 = (Hr.allL cs).length ∧ n1 ≤ 1000 := by
      obtain ⟨_, _, hsh⟩ := htr.all.shape
      injection hsh with _ hsh2 _
      exact ⟨hsh2, by rw [hsh2]; exact htr.top⟩
    have hkm : k < n1 := by rw [hn1]; exact (List.getElem?_eq_some_iff.1 HCc.out).1
    clear hn1 htr
    obtain ⟨g1, o1, eg1, ys1, w1', hc1⟩ := Hr.row_at HTx.out.all HCc.out
    subst eg1
    have hA := (Below.refl w1.heap.size w1).alloc (Nat.le_refl _) (.cells #[.slice (some ⟨g1, o1, none⟩) n1 c1, .slice a2 n2 c2] 73)
    have HA := hide hA
    have HX2 := hide ((hA.block _ (Ow.lt_of_blk HX1.out)).trans HX1.out)
    have HB2 := hide (HB1.out.trans (hA.mono HB1.out.size))
    have HM := hide (fun wx (hb : Below w1.heap.size w1 wx) => copyClass_any c ys1 wx (w1'.on hb) HLc.out)
    have hr := hc1 _ hA
    obtain ⟨va1, vd1, va2, vd2, va3, vd3, rfl⟩ := Hr.at_c w1'
    have r0 := hr 0 _ rfl
    have r1 := hr 1 _ rfl
    have r2 := hr 2 _ rfl
    have r3 := hr 3 _ rfl
    have r4 := hr 4 _ rfl
    have r5 := hr 5 _ rfl
    rw [Nat.add_zero] at r0
    have hkm' : (k : Int) < (n1 : Int) := by omega
    have hm1' : (n1 : Int) ≤ 1000 := by omega
    clear hA hb1 hx1 HG HTx w1' hr hc1 HX1 HB1
    go_wp2_with fail
    refine (HM.out _ HA.out).mono ?_
    rintro e w3 ⟨ys', rfl, ho3, hb3⟩
    have HX3 := hide ((hb3.block _ (Ow.lt_of_blk HX2.out)).trans HX2.out)
    have HB3 := hide (HB2.out.trans (hb3.mono HB2.out.size))
    have HO3 : Hid (Ow.ClsO w3 w.heap.size c ys') := hide (ho3.on (Below.refl _ _) HB2.out.size)
    obtain ⟨vp, vc, vk, rfl, p1, i1, k1, z1⟩ := ho3
    obtain ⟨xa1, xd1, rfl⟩ := p1.shape
    obtain ⟨xa2, xd2, rfl⟩ := i1.shape
    obtain ⟨xa3, xd3, rfl⟩ := k1.shape
    clear p1 i1 k1 z1 hb3 r0 r1 r2 r3 r4 r5
    have HS := hide (Ow.sets6 (.string ⟨c.name.toArray⟩) (.bool c.iface) (.string ⟨c.super.toArray⟩) (.slice xa1 c.ifaces.length xd1) (.slice xa2 c.fields.length xd2) (.slice xa3 c.methods.length xd3) ⟨_, _, HX3.out⟩)
    have f0 := Ow.fz_blk HX3.out 0
    have f1 := Ow.fz_blk HX3.out 1
    have f2 := Ow.fz_blk HX3.out 2
    have f3 := Ow.fz_blk HX3.out 3
    have f4 := Ow.fz_blk HX3.out 4
    have f5 := Ow.fz_blk HX3.out 5
    have q0 := cell_box HX3.out 0
    have q1 := cell_box HX3.out 1
    have q2 := cell_box HX3.out 2
    have q3 := cell_box HX3.out 3
    have q4 := cell_box HX3.out 4
    have q5 := cell_box HX3.out 5
    have HB4 := hide (HB3.out.trans (HS.out.2.mono (Nat.le_succ _)))
    have HO4 := hide (HO3.out.kx HS.out.1 (by decide) (by decide) (by decide) (by decide) (by decide) (by decide))
    clear HO3
    simp only [clsXL, List.toArray] at HO4 ⊢
    go_wp2_with fail
    refine bodyPost_ret (v := .tuple #[.agg #[.string ⟨c.name.toArray⟩, .bool c.iface, .string ⟨c.super.toArray⟩, .slice xa1 c.ifaces.length xd1, .slice xa2 c.fields.length xd2, .slice xa3 c.methods.length xd3], .bool true]) (by simp [results, Tryd.results12, go_sem, *]) rfl ?_
    exact ⟨⟨c, _, HCc.out, rfl, HO4.out⟩, HB4.out⟩
end Go.Proofs.YtildjihgklgibaaDoor

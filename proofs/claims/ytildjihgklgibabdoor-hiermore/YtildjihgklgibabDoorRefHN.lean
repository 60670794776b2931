/- What the laws' names answers. -/
import Derived.Test.YtildjihgklgibabDoorHierL
import Derived.Test.YtildjihgklgibabDoorHierM
import Derived.Test.YtildjihgklgibabDoorRefHD
namespace Go.Proofs.YtildjihgklgibabDoor
open Go.RowKit
set_option linter.unusedVariables false
set_option linter.unusedSimpArgs false
namespace Hr
theorem light_all {cs : List Pp.XCls} (h : Pp.Light cs) : ∀ c ∈ allL cs, Pp.LtC c := by
  intro c hc
  rcases List.mem_append.1 hc with hc | hc
  · simp only [base, subs, List.map_cons, List.map_nil, List.mem_cons, List.not_mem_nil, or_false] at hc
    rcases hc with rfl | rfl | rfl | rfl | rfl | rfl | rfl | rfl <;> exact ⟨⟨by decide, by decide, by decide, by decide, by decide⟩, (by intro x hx; cases hx), (by intro x hx; cases hx), (by intro x hx; cases hx)⟩
  · exact h.2 c hc
theorem light_len {cs : List Pp.XCls} (h : Pp.Light cs) : (allL cs).length ≤ 22 := by
  show (base ++ cs).length ≤ 22
  rw [List.length_append]; show 8 + cs.length ≤ 22; have := h.1; omega
def namesL (l : List Pp.XCls) : List Pp.Bs := l.map fun c => c.name
theorem names_take {l : List Pp.XCls} {k : Nat} {x : Pp.XCls} (h : l[k]? = some x) : namesL (l.take k) ++ [x.name] = namesL (l.take (k + 1)) := by
  unfold namesL; rw [List.take_add_one, h, List.map_append]; rfl
end Hr

set_option maxRecDepth 100000 in
set_option maxHeartbeats 8000000 in
theorem names_any (cs : List Pp.XCls) (v : Value) (w : World) (h : ProgX w v cs) (hl : Pp.Light cs) :
    Calls Tryd.prog 8 #[.agg #[v]] w fun e w' => ∃ v', e = .returned v' ∧ Ow.OwnX w' w.heap.size 9 1 StrX v' (Hr.namesL (Hr.allL cs)) ∧ Below w.heap.size w w' := by
  obtain ⟨i0, hj1, hj0, hj2, hj3⟩ := Ow.info_of Ow.i_str
  have HAl := hide (fun wx (hb : Below w.heap.size w wx) => All_any cs v wx (h.on hb) hl)
  have HM0 := hide (Hr.light_len hl)
  obtain ⟨pa, pc, rfl, _⟩ := h.1.len
  generalize cs.length = n at *
  clear h hl
  have HX := hide (heap_alloc_new w (.cells #[.slice pa n pc] 24))
  have HB0 := hide ((Below.refl w.heap.size w).alloc (Nat.le_refl _) (.cells #[.slice pa n pc] 24))
  go_enter Tryd.func8, Tryd.ntmps8
  go_wp2_with fail
  generalize w.alloc (.cells #[.slice pa n pc] 24) = w0 at *
  refine (HAl.out w0 HB0.out).mono ?_
  rintro e w1 ⟨vl, rfl, hol, hb1⟩
  have HW := hide (HB0.out.trans (hb1.mono HB0.out.size))
  have HRow := hide (hol.row Ow.shp_cls fun _ _ h => h.x)
  obtain ⟨la, lc, rfl⟩ := hol.shape
  obtain ⟨l, hl⟩ : ∃ l, l = Hr.allL cs := ⟨_, rfl⟩
  have HLL := hide hl
  rw [← hl] at HRow HM0 ⊢
  clear hl
  obtain ⟨m, hm⟩ : ∃ q, q = l.length := ⟨_, rfl⟩
  have HM := hide hm
  rw [← hm] at HRow HM0 ⊢
  have hm22 : m ≤ 22 := HM0.out
  clear hb1 hol hm HAl HB0 HX
  go_wp2_with fail
  go_loopw [4, 5] (fun ov i wr => ∃ k : Nat, k ≤ m ∧ i = .int .i64 k ∧ Hid (Below w1.heap.size w1 wr) ∧ Hid (Ow.OwnX wr w1.heap.size 9 1 StrX ov (Hr.namesL (l.take k)))) (fun ov i _ => m - (intOf i).toNat)
  case atStart => exact ⟨0, Nat.zero_le _, rfl, hide (Below.refl _ _), hide (Ow.OwnX.nil _ _ _ _ _)⟩
  case round =>
    obtain ⟨k, hk, rfl, HB, HO⟩ := hrel
    obtain ⟨oa, oc, rfl⟩ := HO.out.shape
    by_cases hlt : k < m
    · obtain ⟨x, hx⟩ : ∃ x, l[k]? = some x := ⟨l[k]'(by rw [← HM.out]; exact hlt), List.getElem?_eq_getElem _⟩
      obtain ⟨g1, o1, eg1, ys1, w1', hc1⟩ := Hr.row_at HRow.out hx
      subst eg1
      obtain ⟨vp, vc, vk, rfl, _, _, _, hnl, _⟩ := w1'
      have r0 := hc1 wr HB.out 0 _ rfl
      rw [Nat.add_zero] at r0
      have HNl := hide hnl
      have HTk := hide (Hr.names_take hx)
      have HLn : Hid ((Hr.namesL (l.take k)).length ≤ 22) := hide (by unfold Hr.namesL; rw [List.length_map, List.length_take]; omega)
      have hlt' : (k : Int) < (m : Int) := by omega
      have hmi : (m : Int) ≤ 22 := by omega
      clear hc1 hx hnl
      have hA := (Below.refl wr.heap.size wr).alloc (Nat.le_refl _) (.cells #[.string ⟨x.name.toArray⟩] 9)
      have HA := hide (HB.out.trans (hA.mono HB.out.size))
      have HO1 := hide (HO.out.on hA fun _ _ h => h)
      have HR1 : Hid (RowX (wr.alloc (.cells #[.string ⟨x.name.toArray⟩] 9)) 1 StrX (.slice (some ⟨wr.heap.size, 0, none⟩) 1 1) [x.name]) := hide (Hr.row_one (heap_alloc_new wr _) ⟨rfl, HNl.out⟩)
      generalize Hr.namesL (l.take k) = acc at *
      clear hA
      go_wp2_with (at_builtin; refine Ow.wpList_app rfl (.tmp 14) (.tmp 20) 30 rfl Tryd.underlying30 hj1 hj0 hj2 hj3 (by decide) Ow.shp_str rfl HO1.out rfl HR1.out ?c1 (by decide) HA.out.size ?_)
      case c1 => have := HLn.out; simp; omega
      · intro v' w10 hown hgrow
        have HB10 := hide (HA.out.trans (Ow.bel_grown HO1.out HA.out.size hgrow))
        have HO10 : Hid (Ow.OwnX w10 w1.heap.size 9 1 StrX v' (Hr.namesL (l.take (k + 1)))) := hide (by rw [← HTk.out]; exact hown)
        clear hown hgrow HO1 HR1 HA
        go_wp2_with fail
        go_roundw
        case rel => first | exact ⟨k + 1, by omega, by go_num, HB10, HO10⟩ | ((repeat apply Exists.intro); exact ⟨⟨k + 1, by omega, by go_num, HB10, HO10⟩, rfl⟩)
        case measure => simp [intOf]; omega
    · have hnl : ¬ ((k : Int) < (m : Int)) := by omega
      have HE : Hid (Hr.namesL (l.take k) = Hr.namesL l) := hide (by rw [List.take_of_length_le (by rw [← HM.out]; omega)])
      have HOe := hide (HO.out.low HW.out.size fun _ _ h => h)
      rw [HE.out] at HOe ⊢
      generalize (Hr.namesL l).length = q at *
      have HBe := hide (HW.out.trans (HB.out.mono HW.out.size))
      go_wp2_with fail
      go_ret
      rw [← HLL.out]
      exact ⟨_, rfl, HOe.out, HBe.out⟩

end Go.Proofs.YtildjihgklgibabDoor

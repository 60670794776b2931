/- What the page's above, Base answer. -/
import Derived.Test.YtildjihgklgibaaDoorRefHA
import Derived.Test.YtildjihgklgibaaDoorHierE
import Derived.Test.YtildjihgklgibaaDoorHierH
namespace Go.Proofs.YtildjihgklgibaaDoor
open Go.RowKit
set_option linter.unusedVariables false
set_option linter.unusedSimpArgs false
namespace Hr
theorem above_nil {c : Pp.XCls} (h : superS c = []) : aboveL c = c.ifaces := by
  unfold aboveL; rw [superS_nil h]; rfl
theorem above_ne {c : Pp.XCls} (h : superS c ≠ []) : aboveL c = superS c :: c.ifaces := by
  unfold aboveL; rw [superS_ne h]; rfl
theorem superS_len {c : Pp.XCls} (h : c.super.length ≤ maxLen) : (superS c).length ≤ maxLen := by
  unfold superS superL
  split
  · exact Nat.zero_le _
  · split
    · show 6 ≤ maxLen; unfold maxLen; omega
    · exact h
end Hr

set_option maxRecDepth 100000 in
set_option maxHeartbeats 4000000 in
theorem above_any (c : Pp.XCls) (ys : List Value) (w : World) (h : ClsX w c ys) (hl : c.ifaces.length ≤ 1000) :
    Calls Tryd.prog 31 #[.agg ys.toArray] w fun e w' => ∃ v', e = .returned v' ∧ Ow.OwnX w' w.heap.size 9 1 StrX v' (Hr.aboveL c) ∧ Below w.heap.size w w' := by
  obtain ⟨j0, hj, hj0, hj1, hj2⟩ := Ow.info_of Ow.i_str
  have HS := hide (fun wx (hb : Below w.heap.size w wx) => RSuper_any c ys wx (h.on hb))
  obtain ⟨vp, vc, vk, rfl, p1, i1, k1, z1⟩ := h
  have HI := hide p1
  have HZ := hide z1.2.1
  obtain ⟨va1, vd1, rfl, _⟩ := p1.len
  obtain ⟨va2, vd2, rfl, _⟩ := i1.len
  obtain ⟨va3, vd3, rfl, _⟩ := k1.len
  clear p1 i1 k1 z1
  simp only [clsXL, List.toArray] at HS ⊢
  have HX := hide (heap_alloc_new w (.cells #[.string ⟨c.name.toArray⟩, .bool c.iface, .string ⟨c.super.toArray⟩, .slice va1 c.ifaces.length vd1, .slice va2 c.fields.length vd2, .slice va3 c.methods.length vd3] 33))
  have HB0 := hide ((Below.refl w.heap.size w).alloc (Nat.le_refl _) (.cells #[.string ⟨c.name.toArray⟩, .bool c.iface, .string ⟨c.super.toArray⟩, .slice va1 c.ifaces.length vd1, .slice va2 c.fields.length vd2, .slice va3 c.methods.length vd3] 33))
  go_enter Tryd.func31, Tryd.ntmps31
  go_wp2_with fail
  refine (HS.out _ HB0.out).mono ?_
  rintro e w1 ⟨rfl, hb1⟩
  have HB1 := hide (HB0.out.trans (hb1.mono HB0.out.size))
  have c3 := cell_box ((hb1.block _ (Ow.lt_of_blk HX.out)).trans HX.out) 3
  have HC3 := hide (fun wx (hb : Below w1.heap.size w1 wx) => cell_box ((hb.block _ (Nat.lt_of_lt_of_le (Ow.lt_of_blk HX.out) hb1.size)).trans ((hb1.block _ (Ow.lt_of_blk HX.out)).trans HX.out)) 3)
  clear HS hb1 HX HB0
  obtain ⟨n, hn⟩ : ∃ n, n = c.ifaces.length := ⟨_, rfl⟩
  have HN := hide hn
  rw [← hn] at HI c3 HC3 hl
  clear hn
  by_cases hs : Hr.superS c = []
  · have HA := hide (Hr.above_nil hs)
    rw [hs]
    go_wp2_with (at_builtin; refine Ow.wpList_app rfl (.tmp 13) (.tmp 15) 29 rfl Tryd.underlying29 hj hj0 hj1 hj2 (by decide) Ow.shp_str rfl (Ow.OwnX.nil w1 w.heap.size 9 1 StrX) rfl (HI.out.on HB1.out fun _ _ h => h) ?c1 (by decide) HB1.out.size ?_)
    case c1 => rw [← HN.out]; simp; omega
    · intro v' w2 hown hgrow
      have HB2 := hide (HB1.out.trans (Ow.bel_grown (Ow.OwnX.nil w1 w.heap.size 9 1 StrX) HB1.out.size hgrow))
      have HO2 : Hid (Ow.OwnX w2 w.heap.size 9 1 StrX v' (Hr.aboveL c)) := hide (by rw [HA.out]; exact hown)
      clear hown hgrow
      go_wp2_with fail
      go_ret
      exact ⟨_, rfl, HO2.out, HB2.out⟩
  · have HA := hide (Hr.above_ne hs)
    have hse : (Hr.superS c == []) = false := by simp [hs]
    have HL := hide (Hr.superS_len HZ.out)
    clear hs
    generalize Hr.superS c = s at *
    have hAl := HB1.out.alloc HB1.out.size (.cells #[.string ⟨s.toArray⟩] 9)
    have HAl := hide hAl
    have HR1 : Hid (RowX (w1.alloc (.cells #[.string ⟨s.toArray⟩] 9)) 1 StrX (.slice (some ⟨w1.heap.size, 0, none⟩) 1 1) [s]) := hide (Hr.row_one (heap_alloc_new w1 _) ⟨rfl, HL.out⟩)
    clear hAl c3
    go_wp2_with (at_builtin; refine Ow.wpList_app rfl (.tmp 9) (.tmp 11) 29 rfl Tryd.underlying29 hj hj0 hj1 hj2 (by decide) Ow.shp_str rfl (Ow.OwnX.nil _ w.heap.size 9 1 StrX) rfl HR1.out ?c1 (by decide) HAl.out.size ?_)
    case c1 => simp
    · intro v' w2 hown hgrow
      have HG2 := hide (Ow.bel_grown (Ow.OwnX.nil (w1.alloc (.cells #[.string ⟨s.toArray⟩] 9)) (w1.alloc (.cells #[.string ⟨s.toArray⟩] 9)).heap.size 9 1 StrX) (Nat.le_refl _) hgrow)
      have HW2 : Hid (Below w1.heap.size w1 w2) := hide (((Below.refl _ _).alloc (Nat.le_refl _) _).trans (HG2.out.mono (by simp)))
      have HB2 := hide (HB1.out.trans (HW2.out.mono HB1.out.size))
      have HO2 := hide hown
      have c3 := HC3.out _ HW2.out
      obtain ⟨la, lc, rfl⟩ := hown.shape
      clear hown hgrow HR1 HAl HG2
      go_wp2_with (at_builtin; refine Ow.wpList_app rfl (.tmp 13) (.tmp 15) 29 rfl Tryd.underlying29 hj hj0 hj1 hj2 (by decide) Ow.shp_str rfl HO2.out rfl (HI.out.on HB2.out fun _ _ h => h) ?c2 (by decide) HB2.out.size ?_)
      case c2 => rw [← HN.out]; simp; omega
      · intro v' w3 hown hgrow
        have HB3 := hide (HB2.out.trans (Ow.bel_grown HO2.out HB2.out.size hgrow))
        have HO3 : Hid (Ow.OwnX w3 w.heap.size 9 1 StrX v' (Hr.aboveL c)) := hide (by rw [HA.out]; exact hown)
        clear hown hgrow
        go_wp2_with fail
        go_ret
        exact ⟨_, rfl, HO3.out, HB3.out⟩

set_option maxRecDepth 100000 in
set_option maxHeartbeats 8000000 in
theorem Base_any (w : World) :
    Calls Tryd.prog 41 #[] w fun e w' => ∃ v, e = .returned v ∧ Ow.OwnX w' w.heap.size 33 6 Hr.BasX v Hr.base ∧ Below w.heap.size w w' := by
  obtain ⟨j0, hj, hj0, hj1, hj2⟩ := Ow.info_of Ow.i_cls
  have HO0 : Hid (Ow.OwnX (w.alloc (.cells #[.string ⟨#[79, 98, 106, 101, 99, 116]⟩, .bool false, .string ⟨#[]⟩, .slice none 0 0, .slice none 0 0, .slice none 0 0, .string ⟨#[69, 114, 114, 111, 114]⟩, .bool false, .string ⟨#[79, 98, 106, 101, 99, 116]⟩, .slice none 0 0, .slice none 0 0, .slice none 0 0] 33)) w.heap.size 33 6 Hr.BasX (.slice (some ⟨w.heap.size, 0, none⟩) 2 2) (Hr.base.take 2)) := hide
    ⟨_, ⟨[.string ⟨#[79, 98, 106, 101, 99, 116]⟩, .bool false, .string ⟨#[]⟩, .slice none 0 0, .slice none 0 0, .slice none 0 0], _, rfl, Hr.bas_plain (by decide) (by decide), [.string ⟨#[69, 114, 114, 111, 114]⟩, .bool false, .string ⟨#[79, 98, 106, 101, 99, 116]⟩, .slice none 0 0, .slice none 0 0, .slice none 0 0], _, rfl, Hr.bas_plain (by decide) (by decide), rfl⟩, rfl, .inr ⟨w.heap.size, 2, _, rfl, Nat.le_refl _, heap_alloc_new w _, Nat.le_refl _, by decide, rfl, rfl⟩⟩
  have HW0 := hide ((Below.refl w.heap.size w).alloc (Nat.le_refl _) (.cells #[.string ⟨#[79, 98, 106, 101, 99, 116]⟩, .bool false, .string ⟨#[]⟩, .slice none 0 0, .slice none 0 0, .slice none 0 0, .string ⟨#[69, 114, 114, 111, 114]⟩, .bool false, .string ⟨#[79, 98, 106, 101, 99, 116]⟩, .slice none 0 0, .slice none 0 0, .slice none 0 0] 33))
  go_enter Tryd.func41, Tryd.ntmps41
  go_wp2_with fail
  have HS0 : Hid ((w.alloc (.cells #[.string ⟨#[79, 98, 106, 101, 99, 116]⟩, .bool false, .string ⟨#[]⟩, .slice none 0 0, .slice none 0 0, .slice none 0 0, .string ⟨#[69, 114, 114, 111, 114]⟩, .bool false, .string ⟨#[79, 98, 106, 101, 99, 116]⟩, .slice none 0 0, .slice none 0 0, .slice none 0 0] 33)).heap.size = w.heap.size + 1) := hide (by simp)
  generalize w.alloc (.cells #[.string ⟨#[79, 98, 106, 101, 99, 116]⟩, .bool false, .string ⟨#[]⟩, .slice none 0 0, .slice none 0 0, .slice none 0 0, .string ⟨#[69, 114, 114, 111, 114]⟩, .bool false, .string ⟨#[79, 98, 106, 101, 99, 116]⟩, .slice none 0 0, .slice none 0 0, .slice none 0 0] 33) = w0 at *
  go_loopw [1, 3] (fun v i wr => ∃ k : Nat, k ≤ 6 ∧ i = .int .i64 k ∧ Hid (Below w.heap.size w wr) ∧ Hid (wr.heap[w.heap.size + 1]? = some (.cells ((Hr.subs.map fun s => Value.string ⟨s.toArray⟩).toArray) 9 (0, 0))) ∧ Hid (Ow.OwnX wr w.heap.size 33 6 Hr.BasX v (Hr.base.take (2 + k)))) (fun v i _ => 6 - (intOf i).toNat)
  case atStart => exact ⟨0, Nat.zero_le _, rfl, hide (HW0.out.alloc HW0.out.size _), hide (by rw [← HS0.out]; exact heap_alloc_new w0 _), hide (HO0.out.on ((Below.refl _ _).alloc (Nat.le_refl _) _) fun _ _ h => h)⟩
  case round =>
    obtain ⟨k, hk, rfl, HB, HT, HO⟩ := hrel
    clear HO0 HW0
    obtain ⟨la, lc, rfl⟩ := HO.out.shape
    by_cases hlt : k < 6
    · have hlen : Hid ((Hr.base.take (2 + k)).length = 2 + k) := hide (by rw [List.length_take]; have : Hr.base.length = 8 := rfl; omega)
      obtain ⟨s, hs, hb, hsl⟩ : ∃ s, Hr.subs[k]? = some s ∧ Hr.base[2 + k]? = some (Hr.plain s Hr.errN) ∧ s.length ≤ maxLen := by
        have hcs : k = 0 ∨ k = 1 ∨ k = 2 ∨ k = 3 ∨ k = 4 ∨ k = 5 := by omega
        rcases hcs with rfl | rfl | rfl | rfl | rfl | rfl <;> exact ⟨_, rfl, rfl, by decide⟩
      have HTk : Hid (Hr.base.take (2 + (k + 1)) = Hr.base.take (2 + k) ++ [Hr.plain s Hr.errN]) := hide (by rw [← Nat.add_assoc, List.take_add_one, hb]; rfl)
      have HSl := hide hsl
      have r0 := cell_box HT.out k
      rw [List.getElem?_toArray, List.getElem?_map, hs] at r0
      simp only [Option.map_some] at r0
      have hlt' : (k : Int) < 6 := by omega
      clear hs hb hsl
      generalize Hr.base.take (2 + k) = acc at *
      obtain ⟨al, hal⟩ : ∃ a, a = acc.length := ⟨_, rfl⟩
      have HAl := hide hal
      have HTA := hide (((Below.refl wr.heap.size wr).alloc (Nat.le_refl _) (.cells #[.string ⟨s.toArray⟩, .bool false, .string ⟨#[69, 114, 114, 111, 114]⟩, .slice none 0 0, .slice none 0 0, .slice none 0 0] 33)).block _ (Ow.lt_of_blk HT.out) |>.trans HT.out)
      have HA := hide (HB.out.alloc HB.out.size (.cells #[.string ⟨s.toArray⟩, .bool false, .string ⟨#[69, 114, 114, 111, 114]⟩, .slice none 0 0, .slice none 0 0, .slice none 0 0] 33))
      have HO1 := hide (HO.out.on ((Below.refl wr.heap.size wr).alloc (Nat.le_refl _) (.cells #[.string ⟨s.toArray⟩, .bool false, .string ⟨#[69, 114, 114, 111, 114]⟩, .slice none 0 0, .slice none 0 0, .slice none 0 0] 33)) fun _ _ h => h)
      have HR1 := hide (Hr.row_one (sz := 6) (P := Hr.BasX) (heap_alloc_new wr (.cells #[.string ⟨s.toArray⟩, .bool false, .string ⟨#[69, 114, 114, 111, 114]⟩, .slice none 0 0, .slice none 0 0, .slice none 0 0] 33)) (Hr.bas_plain (n := s) (s := Hr.errN) HSl.out (by decide)))
      clear HO HT HB
      go_wp2_with (at_builtin; refine Ow.wpList_app rfl (.tmp 14) (.tmp 20) 22 rfl Tryd.underlying22 hj hj0 hj1 hj2 (by decide) Hr.shp_bas rfl HO1.out rfl HR1.out ?c1 (by decide) HA.out.size ?_)
      case c1 => have := hlen.out; simp; omega
      · intro v' w10 hown hgrow
        have hkx := Ow.kx_grown HO1.out hgrow
        have HB10 := hide (HA.out.trans (Ow.bel_grown HO1.out HA.out.size hgrow))
        have HT10 := hide (hkx.blk _ _ _ _ HTA.out (by decide))
        have HO10 : Hid (Ow.OwnX w10 w.heap.size 33 6 Hr.BasX v' (Hr.base.take (2 + (k + 1)))) := hide (by rw [HTk.out]; exact hown)
        clear hown hgrow hkx HO1 HR1 HA HTA
        go_wp2_with fail
        go_roundw
        case rel => first | exact ⟨k + 1, by omega, by go_num, HB10, HT10, HO10⟩ | ((repeat apply Exists.intro); exact ⟨⟨k + 1, by omega, by go_num, HB10, HT10, HO10⟩, rfl⟩)
        case measure => simp [intOf]; omega
    · have hk6 : k = 6 := by omega
      subst hk6
      have HOe : Hid (Ow.OwnX wr w.heap.size 33 6 Hr.BasX (.slice la (List.take (2 + 6) Hr.base).length lc) Hr.base) := HO
      generalize (List.take (2 + 6) Hr.base).length = nl at *
      go_wp2_with fail
      go_ret
      exact ⟨_, rfl, HOe.out, HB.out⟩
end Go.Proofs.YtildjihgklgibaaDoor

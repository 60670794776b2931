/- What the laws of this seat lean on: 3 texts. -/
import Derived.Test.YtbbbnciejmdpfabGreatDoorPkBf
import Derived.Test.YtbbbnciejmdpfabGreatDoorPkAp
import Derived.Test.YtbbbnciejmdpfabGreatDoorPkAe
set_option maxRecDepth 100000
set_option maxHeartbeats 64000000
set_option linter.unusedVariables false
set_option linter.unusedSimpArgs false
namespace Go.Proofs.YtbbbnciejmdpfabGreatDoor
open Go.RowKit
namespace Hr
theorem above_nil {c : Pp.XCls} (h : superS c = []) : aboveL c = c.ifaces := by
 unfold aboveL; rw [superS_nil h]; rfl
theorem above_ne {c : Pp.XCls} (h : superS c ≠ []) : aboveL c = superS c :: c.ifaces := by
 unfold aboveL; rw [superS_ne h]; rfl
theorem superS_len {c : Pp.XCls} (h : c.super.length <= maxLen) : (superS c).length <= maxLen := by
 unfold superS superL
 split
 · exact Nat.zero_le _
 · split
   · show 6 <= maxLen; unfold maxLen; omega
   · exact h
end Hr
theorem above_any (c : Pp.XCls) (ys : List Value) (w : World) (h : ClsX w c ys) (hl : c.ifaces.length <= 1000) :
 Calls Tryz.prog 29 #[.agg ys.toArray] w fun e w' => ∃ v', e = .returned v' /\ Ow.OwnX w' w.heap.size 9 1 StrX v' (Hr.aboveL c) /\ Below w.heap.size w w' := by
 obtain ⟨j0, hj, hj0, hj1, hj2⟩ := Ow.info_of Ow.i_str; have HS := hide (fun wx (hb : Below w.heap.size w wx) => RSuper_any c ys wx (h.on hb)); obtain ⟨vp, vc, vk, rfl, p1, i1, k1, z1⟩ := h; have HI := hide p1; have HZ := hide z1.2.1; obtain ⟨va1, vd1, rfl, _⟩ := p1.len; obtain ⟨va2, vd2, rfl, _⟩ := i1.len; obtain ⟨va3, vd3, rfl, _⟩ := k1.len; clear p1 i1 k1 z1; simp only [clsXL, List.toArray] at HS ⊢; have HX := hide (heap_alloc_new w (.cells #[.string ⟨c.name.toArray⟩, .bool c.iface, .string ⟨c.super.toArray⟩, .slice va1 c.ifaces.length vd1, .slice va2 c.fields.length vd2, .slice va3 c.methods.length vd3] 33)); have HB0 := hide ((Below.refl w.heap.size w).alloc (Nat.le_refl _) (.cells #[.string ⟨c.name.toArray⟩, .bool c.iface, .string ⟨c.super.toArray⟩, .slice va1 c.ifaces.length vd1, .slice va2 c.fields.length vd2, .slice va3 c.methods.length vd3] 33)); go_enter Tryz.func29, Tryz.ntmps29; go_wp2_with fail; refine (HS.out _ HB0.out).mono ?_; rintro e w1 ⟨rfl, hb1⟩; have HB1 := hide (HB0.out.trans (hb1.mono HB0.out.size)); have c3 := cell_box ((hb1.block _ (Ow.lt_of_blk HX.out)).trans HX.out) 3; have HC3 := hide (fun wx (hb : Below w1.heap.size w1 wx) => cell_box ((hb.block _ (Nat.lt_of_lt_of_le (Ow.lt_of_blk HX.out) hb1.size)).trans ((hb1.block _ (Ow.lt_of_blk HX.out)).trans HX.out)) 3); clear HS hb1 HX HB0; obtain ⟨n, hn⟩ : ∃ n, n = c.ifaces.length := ⟨_, rfl⟩; have HN := hide hn; rw [<- hn] at HI c3 HC3 hl; clear hn; by_cases hs : Hr.superS c = []
 · have HA := hide (Hr.above_nil hs)
   rw [hs]
   go_wp2_with (at_builtin; refine Ow.wpList_app rfl (.tmp 13) (.tmp 15) 29 rfl Tryz.underlying29 hj hj0 hj1 hj2 (by decide) Ow.shp_str rfl (Ow.OwnX.nil w1 w.heap.size 9 1 StrX) rfl (HI.out.on HB1.out fun _ _ h => h) ?c1 (by decide) HB1.out.size ?_)
   case c1 => rw [<- HN.out]; simp; omega
   · intro v' w2 hown hgrow
     have HB2 := hide (HB1.out.trans (Ow.bel_grown (Ow.OwnX.nil w1 w.heap.size 9 1 StrX) HB1.out.size hgrow)); have HO2 : Hid (Ow.OwnX w2 w.heap.size 9 1 StrX v' (Hr.aboveL c)) := hide (by rw [HA.out]; exact hown)
     clear hown hgrow; go_wp2_with fail; go_ret; exact ⟨_, rfl, HO2.out, HB2.out⟩
 · have HA := hide (Hr.above_ne hs)
   have hse : (Hr.superS c == []) = false := by simp [hs]
   have HL := hide (Hr.superS_len HZ.out); clear hs; generalize Hr.superS c = s at *
   have hAl := HB1.out.alloc HB1.out.size (.cells #[.string ⟨s.toArray⟩] 9); have HAl := hide hAl; have HR1 : Hid (RowX (w1.alloc (.cells #[.string ⟨s.toArray⟩] 9)) 1 StrX (.slice (some ⟨w1.heap.size, 0, none⟩) 1 1) [s]) := hide (Hr.row_one (heap_alloc_new w1 _) ⟨rfl, HL.out⟩); clear hAl c3
   go_wp2_with (at_builtin; refine Ow.wpList_app rfl (.tmp 9) (.tmp 11) 29 rfl Tryz.underlying29 hj hj0 hj1 hj2 (by decide) Ow.shp_str rfl (Ow.OwnX.nil _ w.heap.size 9 1 StrX) rfl HR1.out ?c1 (by decide) HAl.out.size ?_)
   case c1 => simp
   · intro v' w2 hown hgrow
     have HG2 := hide (Ow.bel_grown (Ow.OwnX.nil (w1.alloc (.cells #[.string ⟨s.toArray⟩] 9)) (w1.alloc (.cells #[.string ⟨s.toArray⟩] 9)).heap.size 9 1 StrX) (Nat.le_refl _) hgrow); have HW2 : Hid (Below w1.heap.size w1 w2) := hide (((Below.refl _ _).alloc (Nat.le_refl _) _).trans (HG2.out.mono (by simp)))
     have HB2 := hide (HB1.out.trans (HW2.out.mono HB1.out.size)); have HO2 := hide hown; have c3 := HC3.out _ HW2.out; obtain ⟨la, lc, rfl⟩ := hown.shape; clear hown hgrow HR1 HAl HG2
     go_wp2_with (at_builtin; refine Ow.wpList_app rfl (.tmp 13) (.tmp 15) 29 rfl Tryz.underlying29 hj hj0 hj1 hj2 (by decide) Ow.shp_str rfl HO2.out rfl (HI.out.on HB2.out fun _ _ h => h) ?c2 (by decide) HB2.out.size ?_)
     case c2 => rw [<- HN.out]; simp; omega
     · intro v' w3 hown hgrow
       have HB3 := hide (HB2.out.trans (Ow.bel_grown HO2.out HB2.out.size hgrow)); have HO3 : Hid (Ow.OwnX w3 w.heap.size 9 1 StrX v' (Hr.aboveL c)) := hide (by rw [HA.out]; exact hown)
       clear hown hgrow; go_wp2_with fail; go_ret; exact ⟨_, rfl, HO3.out, HB3.out⟩
theorem Base_any (w : World) :
 Calls Tryz.prog 13 #[] w fun e w' => ∃ v, e = .returned v /\ Ow.OwnX w' w.heap.size 33 6 Hr.BasX v Hr.base /\ Below w.heap.size w w' := by
 obtain ⟨j0, hj, hj0, hj1, hj2⟩ := Ow.info_of Ow.i_cls
 have HO0 : Hid (Ow.OwnX (w.alloc (.cells #[.string ⟨#[79, 98, 106, 101, 99, 116]⟩, .bool false, .string ⟨#[]⟩, .slice none 0 0, .slice none 0 0, .slice none 0 0, .string ⟨#[69, 114, 114, 111, 114]⟩, .bool false, .string ⟨#[79, 98, 106, 101, 99, 116]⟩, .slice none 0 0, .slice none 0 0, .slice none 0 0] 33)) w.heap.size 33 6 Hr.BasX (.slice (some ⟨w.heap.size, 0, none⟩) 2 2) (Hr.base.take 2)) := hide
  ⟨_, ⟨[.string ⟨#[79, 98, 106, 101, 99, 116]⟩, .bool false, .string ⟨#[]⟩, .slice none 0 0, .slice none 0 0, .slice none 0 0], _, rfl, Hr.bas_plain (by decide) (by decide), [.string ⟨#[69, 114, 114, 111, 114]⟩, .bool false, .string ⟨#[79, 98, 106, 101, 99, 116]⟩, .slice none 0 0, .slice none 0 0, .slice none 0 0], _, rfl, Hr.bas_plain (by decide) (by decide), rfl⟩, rfl, .inr ⟨w.heap.size, 2, _, rfl, Nat.le_refl _, heap_alloc_new w _, Nat.le_refl _, by decide, rfl, rfl⟩⟩
 have HW0 := hide ((Below.refl w.heap.size w).alloc (Nat.le_refl _) (.cells #[.string ⟨#[79, 98, 106, 101, 99, 116]⟩, .bool false, .string ⟨#[]⟩, .slice none 0 0, .slice none 0 0, .slice none 0 0, .string ⟨#[69, 114, 114, 111, 114]⟩, .bool false, .string ⟨#[79, 98, 106, 101, 99, 116]⟩, .slice none 0 0, .slice none 0 0, .slice none 0 0] 33)); go_enter Tryz.func13, Tryz.ntmps13; go_wp2_with fail; have HS0 : Hid ((w.alloc (.cells #[.string ⟨#[79, 98, 106, 101, 99, 116]⟩, .bool false, .string ⟨#[]⟩, .slice none 0 0, .slice none 0 0, .slice none 0 0, .string ⟨#[69, 114, 114, 111, 114]⟩, .bool false, .string ⟨#[79, 98, 106, 101, 99, 116]⟩, .slice none 0 0, .slice none 0 0, .slice none 0 0] 33)).heap.size = w.heap.size + 1) := hide (by simp)
 generalize w.alloc (.cells #[.string ⟨#[79, 98, 106, 101, 99, 116]⟩, .bool false, .string ⟨#[]⟩, .slice none 0 0, .slice none 0 0, .slice none 0 0, .string ⟨#[69, 114, 114, 111, 114]⟩, .bool false, .string ⟨#[79, 98, 106, 101, 99, 116]⟩, .slice none 0 0, .slice none 0 0, .slice none 0 0] 33) = w0 at *
 go_loopw [1, 3] (fun v i wr => ∃ k : Nat, k <= 6 /\ i = .int .i64 k /\ Hid (Below w.heap.size w wr) /\ Hid (wr.heap[w.heap.size + 1]? = some (.cells ((Hr.subs.map fun s => Value.string ⟨s.toArray⟩).toArray) 9 (0, 0))) /\ Hid (Ow.OwnX wr w.heap.size 33 6 Hr.BasX v (Hr.base.take (2 + k)))) (fun v i _ => 6 - (intOf i).toNat)
 case atStart => exact ⟨0, Nat.zero_le _, rfl, hide (HW0.out.alloc HW0.out.size _), hide (by rw [<- HS0.out]; exact heap_alloc_new w0 _), hide (HO0.out.on ((Below.refl _ _).alloc (Nat.le_refl _) _) fun _ _ h => h)⟩
 case round =>
  obtain ⟨k, hk, rfl, HB, HT, HO⟩ := hrel; clear HO0 HW0; obtain ⟨la, lc, rfl⟩ := HO.out.shape; by_cases hlt : k < 6
  · have hlen : Hid ((Hr.base.take (2 + k)).length = 2 + k) := hide (by rw [List.length_take]; have : Hr.base.length = 8 := rfl; omega)
    obtain ⟨s, hs, hb, hsl⟩ : ∃ s, Hr.subs[k]? = some s /\ Hr.base[2 + k]? = some (Hr.plain s Hr.errN) /\ s.length <= maxLen := by
     have hcs : k = 0 \/ k = 1 \/ k = 2 \/ k = 3 \/ k = 4 \/ k = 5 := by omega
     rcases hcs with rfl | rfl | rfl | rfl | rfl | rfl <;> exact ⟨_, rfl, rfl, by decide⟩
    have HTk : Hid (Hr.base.take (2 + (k + 1)) = Hr.base.take (2 + k) ++ [Hr.plain s Hr.errN]) := hide (by rw [<- Nat.add_assoc, List.take_add_one, hb]; rfl)
    have HSl := hide hsl; have r0 := cell_box HT.out k; rw [List.getElem?_toArray, List.getElem?_map, hs] at r0; simp only [Option.map_some] at r0; have hlt' : (k : Int) < 6 := by omega
    clear hs hb hsl; generalize Hr.base.take (2 + k) = acc at *
    obtain ⟨al, hal⟩ : ∃ a, a = acc.length := ⟨_, rfl⟩; have HAl := hide hal; have HTA := hide (((Below.refl wr.heap.size wr).alloc (Nat.le_refl _) (.cells #[.string ⟨s.toArray⟩, .bool false, .string ⟨#[69, 114, 114, 111, 114]⟩, .slice none 0 0, .slice none 0 0, .slice none 0 0] 33)).block _ (Ow.lt_of_blk HT.out) |>.trans HT.out)
    have HA := hide (HB.out.alloc HB.out.size (.cells #[.string ⟨s.toArray⟩, .bool false, .string ⟨#[69, 114, 114, 111, 114]⟩, .slice none 0 0, .slice none 0 0, .slice none 0 0] 33)); have HO1 := hide (HO.out.on ((Below.refl wr.heap.size wr).alloc (Nat.le_refl _) (.cells #[.string ⟨s.toArray⟩, .bool false, .string ⟨#[69, 114, 114, 111, 114]⟩, .slice none 0 0, .slice none 0 0, .slice none 0 0] 33)) fun _ _ h => h); have HR1 := hide (Hr.row_one (sz := 6) (P := Hr.BasX) (heap_alloc_new wr (.cells #[.string ⟨s.toArray⟩, .bool false, .string ⟨#[69, 114, 114, 111, 114]⟩, .slice none 0 0, .slice none 0 0, .slice none 0 0] 33)) (Hr.bas_plain (n := s) (s := Hr.errN) HSl.out (by decide)))
    clear HO HT HB
    go_wp2_with (at_builtin; refine Ow.wpList_app rfl (.tmp 14) (.tmp 20) 22 rfl Tryz.underlying22 hj hj0 hj1 hj2 (by decide) Hr.shp_bas rfl HO1.out rfl HR1.out ?c1 (by decide) HA.out.size ?_)
    case c1 => have := hlen.out; simp; omega
    · intro v' w10 hown hgrow
      have hkx := Ow.kx_grown HO1.out hgrow; have HB10 := hide (HA.out.trans (Ow.bel_grown HO1.out HA.out.size hgrow)); have HT10 := hide (hkx.blk _ _ _ _ HTA.out (by decide))
      have HO10 : Hid (Ow.OwnX w10 w.heap.size 33 6 Hr.BasX v' (Hr.base.take (2 + (k + 1)))) := hide (by rw [HTk.out]; exact hown)
      clear hown hgrow hkx HO1 HR1 HA HTA; go_wp2_with fail
      go_roundw
      case rel => first | exact ⟨k + 1, by omega, by go_num, HB10, HT10, HO10⟩ | ((repeat apply Exists.intro); exact ⟨⟨k + 1, by omega, by go_num, HB10, HT10, HO10⟩, rfl⟩)
      case measure => simp [intOf]; omega
  · have hk6 : k = 6 := by omega
    subst hk6; have HOe : Hid (Ow.OwnX wr w.heap.size 33 6 Hr.BasX (.slice la (List.take (2 + 6) Hr.base).length lc) Hr.base) := HO; generalize (List.take (2 + 6) Hr.base).length = nl at *
    go_wp2_with fail; go_ret; exact ⟨_, rfl, HOe.out, HB.out⟩
theorem TwinProgram_any (cs : List Pp.XCls) (v : Value) (w : World) (h : ProgX w v cs) (hl : Pp.Light cs) :
 Calls Tryz.prog 32 #[.agg #[v]] w fun e w' => ∃ v', e = .returned (.agg #[v']) /\ Ow.ProgO w' w.heap.size v' cs /\ Below w.heap.size w w' := by
 have HR := hide h.1; have HZ := hide h.2; have HLc := hide hl.2; have hn := hl.1; obtain ⟨pa, pc, rfl, _⟩ := h.1.len; obtain ⟨n, hn'⟩ : ∃ n, n = cs.length := ⟨_, rfl⟩; have HN := hide hn'; rw [<- hn'] at HR hn ⊢; clear h hl hn'; obtain ⟨j0, hj, hj0, hj1, hj2⟩ := Ow.info_of Ow.i_cls
 have hx0 : (((w.alloc (.cells #[.slice pa n pc] 24)).alloc (.cells #[.slice none 0 0] 24)).alloc (.cells #[.slice none 0 0] 24)).heap[w.heap.size]? = some (.cells #[.slice pa n pc] 24 (0, 0)) :=
  (((Below.refl _ _).alloc (Nat.le_refl _) _).block w.heap.size (by simp; omega)).trans (Ow.blk_alloc2a w _ _)
 have hx1 : (((w.alloc (.cells #[.slice pa n pc] 24)).alloc (.cells #[.slice none 0 0] 24)).alloc (.cells #[.slice none 0 0] 24)).heap[w.heap.size + 1]? = some (.cells #[.slice none 0 0] 24 (0, 0)) :=
  (((Below.refl _ _).alloc (Nat.le_refl _) _).block (w.heap.size + 1) (by simp)).trans (Ow.blk_alloc2b w _ _)
 have hx2 : (((w.alloc (.cells #[.slice pa n pc] 24)).alloc (.cells #[.slice none 0 0] 24)).alloc (.cells #[.slice none 0 0] 24)).heap[w.heap.size + 2]? = some (.cells #[.slice none 0 0] 24 (0, 0)) := by
  have := heap_alloc_new ((w.alloc (.cells #[.slice pa n pc] 24)).alloc (.cells #[.slice none 0 0] 24)) (.cells #[.slice none 0 0] 24)
  simpa using this
 have HB0 := hide (Ow.bel_alloc2 w (.cells #[.slice pa n pc] 24) (.cells #[.slice none 0 0] 24) |>.alloc (by simp; omega) (.cells #[.slice none 0 0] 24))
 go_enter Tryz.func32, Tryz.ntmps32; go_wp2_with fail; generalize (((w.alloc (.cells #[.slice pa n pc] 24)).alloc (.cells #[.slice none 0 0] 24)).alloc (.cells #[.slice none 0 0] 24)) = w0 at *
 have hs2 : w.heap.size + 2 < w0.heap.size := Ow.lt_of_blk hx2; have HC : Hid (∀ wx, Below (w.heap.size + 2) w0 wx -> wx.heap[w.heap.size]? = some (.cells #[.slice pa n pc] 24 (0, 0)) /\ wx.heap[w.heap.size + 1]? = some (.cells #[.slice none 0 0] 24 (0, 0))) := hide fun wx hb => ⟨(hb.block _ (by omega)).trans hx0, (hb.block _ (by omega)).trans hx1⟩
 have HX2 := hide hx2; clear hx0 hx1 hx2
 go_loopw [4] (fun i wr => ∃ (k : Nat) (acc : List Pp.XCls) (la : Option Addr) (lc : Nat), k <= n /\ i = .int .i64 k /\ Hid (Below (w.heap.size + 2) w0 wr) /\ Hid (wr.heap[w.heap.size + 2]? = some (.cells #[.slice la acc.length lc] 24 (0, 0))) /\ Hid (Ow.OwnX wr w0.heap.size 33 6 (Ow.ClsO wr w0.heap.size) (.slice la acc.length lc) acc) /\ Hid (acc = cs.take k)) (fun i _ => n - (intOf i).toNat)
 case atStart => exact ⟨0, [], none, 0, Nat.zero_le _, rfl, hide (Below.refl _ _), HX2, hide (Ow.OwnX.nil _ _ _ _ _), hide rfl⟩
 case round =>
  obtain ⟨k, acc, la, lc, hk, rfl, HBr, HTr, HO, HAc⟩ := hrel; clear HX2; have q0 := cell_box (HC.out wr HBr.out).1 0; have hsr := HBr.out.size; by_cases hlt : k < n
  · obtain ⟨x, hx⟩ : ∃ x, cs[k]? = some x := ⟨cs[k]'(by rw [<- HN.out]; exact hlt), List.getElem?_eq_getElem _⟩
    obtain ⟨g1, o1, eg1, ys1, w1', hc1⟩ := Ow.row_at HR.out hx; subst eg1; have HBw := hide (HB0.out.trans (HBr.out.mono (by omega)))
    have HCx := hide (hc1 wr.drew (HBw.out.trans ((Below.drew (Below.refl _ _)).mono HBw.out.size))); have HM := hide (fun wy (hb : Below wr.heap.size wr wy) => TwinClass_any x ys1 wy (w1'.on (HBw.out.trans (hb.mono HBw.out.size))) (HLc.out x (List.mem_of_getElem? hx))); have HTk : Hid (acc ++ [x] = cs.take (k + 1)) := hide (by rw [HAc.out, List.take_add_one, hx]; rfl)
    have HLn : Hid (acc.length <= 14) := hide (by rw [HAc.out, List.length_take]; omega)
    obtain ⟨vp, vc, vk, rfl, x1, x2, x3, _⟩ := w1'; obtain ⟨va1, vd1, rfl, _⟩ := x1.len; obtain ⟨va2, vd2, rfl, _⟩ := x2.len; obtain ⟨va3, vd3, rfl, _⟩ := x3.len; have r0 := HCx.out 0 _ rfl; have r1 := HCx.out 1 _ rfl; have r2 := HCx.out 2 _ rfl; have r3 := HCx.out 3 _ rfl; have r4 := HCx.out 4 _ rfl; have r5 := HCx.out 5 _ rfl; rw [Nat.add_zero] at r0; have hlt' : (k : Int) < (n : Int) := by omega
    have hn1 : (n : Int) <= 14 := by omega
    have HDr : Hid (Below wr.heap.size wr wr.drew) := hide (Below.drew (Below.refl _ _)); have HT9 : Hid (∀ wy, Below wr.heap.size wr wy -> wy.heap[w.heap.size + 2]? = some (.cells #[.slice la acc.length lc] 24 (0, 0))) := hide fun wy hb => (hb.block _ (Ow.lt_of_blk HTr.out)).trans HTr.out; have t0 := cell_box HTr.out 0; obtain ⟨ln, hln⟩ : ∃ q, q = acc.length := ⟨_, rfl⟩; have HLN := hide hln; rw [<- hln] at t0; clear hc1 hx x1 x2 x3 HCx HAc hln; simp only [clsXL] at HM; go_wp2_with fail
    go_region_law (first
     | (refine Ow.step_app rfl (.tmp 13) (.tmp 20) 22 rfl Tryz.underlying22 hj hj0 hj1 hj2 (by decide) Ow.shp_cls (by first | rfl | simp [Act.eval, Act.put]) HO1.out (by first | rfl | simp [Act.eval, Act.put]) HR1.out (by have := HLn.out; simp; omega) (by decide) hszA ?_
        intro v' w10 hown hgrow; obtain ⟨xa, xc, hv'⟩ := hown.shape; obtain ⟨nr, hnr⟩ : ∃ q, q = (acc ++ [x]).length := ⟨_, rfl⟩; have HNr := hide hnr; rw [<- hnr] at hv'; clear hnr; subst hv'; have hkx := Ow.kx_grown HO1.out hgrow; have HB10 := hide (HA.out.trans ((Ow.bel_grown HO1.out hszA hgrow).mono (by omega)))
        have HO10 : Hid (Ow.OwnX w10 w0.heap.size 33 6 (Ow.ClsO w10 w0.heap.size) (.slice xa nr xc) (acc ++ [x])) := hide (hown.low (Nat.le_refl _) fun _ _ h => h.kx hkx (by decide) (by decide) (by decide) (by decide) (by decide) (by decide))
        have HT10 := hide (hkx.blk _ _ _ _ HTA.out (by decide))
        have f10 := Ow.fz_blk HT10.out 0; have t10 := cell_box HT10.out 0
        clear hown hgrow hkx HO1 HR1 HA HTA)
     | (go_simp
        refine (HM.out _ HDr.out).mono ?_; rintro e w9 ⟨ys', rfl, ho9, hb9⟩; obtain ⟨wp, wc, wk, rfl, q1, q2, q3, q4⟩ := ho9; have hMO : Ow.ClsO w9 w0.heap.size x (clsXL x wp wc wk) := Ow.ClsO.on ⟨wp, wc, wk, rfl, q1, q2, q3, q4⟩ (Below.refl _ _) (Nat.le_trans HBr.out.size HDr.out.size); have hB9 := HDr.out.trans (hb9.mono HDr.out.size); have hA : Below wr.heap.size wr (w9.alloc (.cells (clsXL x wp wc wk).toArray 33)) := hB9.trans (((Below.refl _ _).alloc (Nat.le_refl _) _).mono hB9.size); have HR1 : Hid (RowX (w9.alloc (.cells (clsXL x wp wc wk).toArray 33)) 6 (Ow.ClsO (w9.alloc (.cells (clsXL x wp wc wk).toArray 33)) w0.heap.size) (.slice (some ⟨w9.heap.size, 0, none⟩) 1 1) [x]) := hide (Ow.row_one (hMO.on ((Below.refl _ _).alloc (Nat.le_refl _) _) (Nat.le_refl _))); have HO1 : Hid (Ow.OwnX (w9.alloc (.cells (clsXL x wp wc wk).toArray 33)) w0.heap.size 33 6 (Ow.ClsO (w9.alloc (.cells (clsXL x wp wc wk).toArray 33)) w0.heap.size) (.slice la ln lc) acc) := hide (by rw [HLN.out]; exact HO.out.on hA fun _ _ h => h.on hA (Nat.le_refl _))
        have HTA := hide (HT9.out _ hA); have hszA := Nat.le_trans hsr hA.size; have HA := hide (HBr.out.trans (hA.mono (by omega)))
        have t9 := cell_box (HT9.out _ hB9) 0; rw [<- HLN.out] at t9; obtain ⟨ua1, ud1, rfl⟩ := q1.shape; obtain ⟨ua2, ud2, rfl⟩ := q2.shape; obtain ⟨ua3, ud3, rfl⟩ := q3.shape; clear hMO q1 q2 q3 q4 hb9 hB9 hA HM; simp only [clsXL] at HR1 HO1 HA HTA ⊢; have t9a := cell_box HTA.out 0
        rw [<- HLN.out] at t9a))
    all_goals
     have hP := Ow.blk_put HT10.out 0 (.slice xa nr xc); have hK2 : Ow.Kx 24 w10 (w10.setCell ⟨w.heap.size + 2, 0, none⟩ (.slice xa nr xc)) := Ow.Kx.set ⟨_, _, HT10.out⟩ 0 (.slice xa nr xc); have HBz := hide (HB10.out.trans ((Below.refl _ _).setCell (p := ⟨w.heap.size + 2, 0, none⟩) (Nat.le_refl _) (.slice xa nr xc))); have HTz : Hid ((w10.setCell ⟨w.heap.size + 2, 0, none⟩ (.slice xa nr xc)).heap[w.heap.size + 2]? = some (.cells #[.slice xa nr xc] 24 (0, 0))) := hide hP; have HOz := hide (HO10.out.kx hK2 (by decide) fun _ _ h => h.kx hK2 (by decide) (by decide) (by decide) (by decide) (by decide) (by decide))
     clear hP hK2; go_wp2_with fail
     go_roundw
     case rel =>
      refine ⟨k + 1, acc ++ [x], xa, xc, by omega, by go_num, ?_, ?_, ?_, HTk⟩
      · exact HBz
      · rw [<- HNr.out]; exact HTz
      · rw [<- HNr.out]; exact HOz
     case measure => simp [intOf]; omega
  · have HE : Hid (acc = cs) := hide (by rw [HAc.out, List.take_of_length_le (by rw [<- HN.out]; omega)])
    have hnl : ¬ ((k : Int) < (n : Int)) := by omega
    have t0 := cell_box HTr.out 0; have s0 := cell_box (HC.out wr HBr.out).2 0; have f0 := Ow.fz_blk (HC.out wr HBr.out).2 0; have hw0 : w.heap.size <= w0.heap.size := by omega
    have hB : Below w.heap.size w wr := HB0.out.trans (HBr.out.mono (by omega))
    have HPt := hide (hB.trans ((Below.refl _ _).setCell (p := ⟨w.heap.size + 1, 0, none⟩) (Nat.le_succ _) (.slice la acc.length lc))); have hK : Ow.Kx 24 wr (wr.setCell ⟨w.heap.size + 1, 0, none⟩ (.slice la acc.length lc)) := Ow.Kx.set ⟨_, _, (HC.out wr HBr.out).2⟩ 0 (.slice la acc.length lc); have HOz := hide ((HO.out.kx hK (by decide) fun _ _ h => h.kx hK (by decide) (by decide) (by decide) (by decide) (by decide) (by decide)).low (base' := w.heap.size) hw0 fun _ _ h => h.on (Below.refl _ _) hw0)
    clear hB hK HAc HTr HBr HC HO; obtain ⟨m, hm⟩ : ∃ q, q = acc.length := ⟨_, rfl⟩; have HMx := hide hm; rw [<- hm] at t0 HPt HOz; clear hm; go_wp2_with fail; refine bodyPost_ret (v := .agg #[.slice la m lc]) (by simp [results, Tryz.results32, go_sem, *]) rfl ?_
    refine ⟨_, rfl, ⟨?_, HZ.out⟩, HPt.out⟩; have := HOz.out; rw [HE.out] at this; exact this
theorem Hr.fld_prog (w : World) (a : Option Addr) (n c : Nat) : (Instr.field 24 (.agg #[.slice a n c]) 0).run Tryz.prog w = .ok (.slice a n c) w := by kernel_rfl
theorem RAll_any (cs : List Pp.XCls) (v : Value) (w : World) (h : ProgX w v cs) (hl : Pp.Light cs) :
 Calls Tryz.prog 12 #[.agg #[v]] w fun e w' => ∃ v', e = .returned v' /\ Ow.OwnX w' w.heap.size 33 6 (Ow.ClsO w' w.heap.size) v' (Hr.allL cs) /\ Below w.heap.size w w' := by
 obtain ⟨j0, hj, hj0, hj1, hj2⟩ := Ow.info_of Ow.i_cls; have HT := hide (fun wx (hb : Below w.heap.size w wx) => TwinProgram_any cs v wx (h.on hb) hl); have hn := hl.1; obtain ⟨pa, pc, rfl, _⟩ := h.1.len; have HL : Hid (Hr.base.length + cs.length <= 1000000) := hide (by show 8 + cs.length <= 1000000; omega)
 obtain ⟨n, hn'⟩ : ∃ n, n = cs.length := ⟨_, rfl⟩; have HN := hide hn'; rw [<- hn'] at HT hn ⊢; clear h hl hn'; have hx0 := hide (heap_alloc_new w (.cells #[.slice pa n pc] 24)); have HB0 := hide ((Below.refl w.heap.size w).alloc (Nat.le_refl _) (.cells #[.slice pa n pc] 24)); go_enter Tryz.func12, Tryz.ntmps12; go_wp2_with fail; generalize w.alloc (.cells #[.slice pa n pc] 24) = w0 at *
 have HC := hide (fun wx (hb : Below w0.heap.size w0 wx) => cell_box ((hb.block _ (Ow.lt_of_blk hx0.out)).trans hx0.out) 0); have HD : Hid (Below w0.heap.size w0 w0.drew) := hide (Below.drew (Below.refl _ _)); have HW : Hid (∀ wx, Below w0.heap.size w0 wx -> Below w.heap.size w wx) := hide fun wx hb => HB0.out.trans (hb.mono HB0.out.size); have c0 := HC.out w0 (Below.refl _ _); have cd := HC.out _ HD.out; clear hx0; have hfd := Hr.fld_prog
 go_region_law (first
  | (refine Ow.step_app rfl (.tmp 3) (.tmp 6) 22 rfl Tryz.underlying22 hj hj0 hj1 hj2 (by decide) Ow.shp_cls (by first | rfl | simp [Act.eval, Act.put]) HO1.out (by first | rfl | simp [Act.eval, Act.put]) HR1.out HL.out (by decide) (HW.out _ HB1.out).size ?_
     intro v' w9 hown hgrow; have HB9 := hide ((HW.out _ HB1.out).trans (Ow.bel_grown HO1.out (HW.out _ HB1.out).size hgrow)); have HO9 : Hid (Ow.OwnX w9 w.heap.size 33 6 (Ow.ClsO w9 w.heap.size) v' (Hr.allL cs)) := hide (hown.low (Nat.le_refl _) fun _ _ h => h.kx (Ow.kx_grown HO1.out hgrow) (by decide) (by decide) (by decide) (by decide) (by decide) (by decide))
     clear hown hgrow HO1 HR1)
  | (go_simp
     refine (Base_any _).mono ?_; rintro e wb ⟨vb, rfl, hob, hbb⟩
     first
      | (have HBb := hide (HD.out.trans (hbb.mono HD.out.size))
         have HOb := hide (hob.low (base' := w.heap.size) (HW.out _ HD.out).size fun _ _ h => h); have cb := HC.out _ HBb.out
         clear hob hbb)
      | (have HB1 := hide (HBt.out.trans (hbb.mono HBt.out.size))
         have HO1 : Hid (Ow.OwnX wb w.heap.size 33 6 (Ow.ClsO wb w.heap.size) vb Hr.base) := hide (hob.low (HW.out _ HBt.out).size fun _ _ h => h.o _ _); have HR1 : Hid (RowX wb 6 (Ow.ClsO wb w.heap.size) (.slice ta cs.length tc) cs) := hide ((HPt.out.1.on hbb fun _ _ h => h.on hbb (Nat.le_refl _)).row Ow.shp_cls fun _ _ h => h)
         clear hob hbb))
  | (go_simp
     first
      | (refine (HT.out _ (HW.out _ HD.out)).mono ?_
         rintro e wt ⟨vt, rfl, hpt, hbt⟩; obtain ⟨ta, tc, rfl⟩ := hpt.1.shape; have HBt := hide (HD.out.trans (hbt.mono HD.out.size)); have HPt : Hid (Ow.ProgO wt w.heap.size (.slice ta cs.length tc) cs) := hide (hpt.on (Below.refl _ _) (HW.out _ HD.out).size)
         clear hpt hbt)
      | (refine (HT.out _ (HW.out _ HBb.out)).mono ?_
         rintro e wt ⟨vt, rfl, hpt, hbt⟩; obtain ⟨ta, tc, rfl⟩ := hpt.1.shape; have HB1 := hide (HBb.out.trans (hbt.mono HBb.out.size)); have HO1 : Hid (Ow.OwnX wt w.heap.size 33 6 (Ow.ClsO wt w.heap.size) vb Hr.base) := hide (HOb.out.on hbt fun _ _ h => h.o _ _); have HR1 : Hid (RowX wt 6 (Ow.ClsO wt w.heap.size) (.slice ta cs.length tc) cs) := hide ((hpt.on (Below.refl _ _) (HW.out _ HBb.out).size).1.row Ow.shp_cls fun _ _ h => h)
         clear hpt hbt)))
 all_goals
  go_wp2_with fail; go_ret; exact ⟨_, rfl, HO9.out, HB9.out⟩
end Go.Proofs.YtbbbnciejmdpfabGreatDoor

/- What the laws of this seat lean on: 3 texts. -/
import Derived.Test.YtbbbnciejmdpfabGreatDoorPkBw
import Derived.Test.YtbbbnciejmdpfabGreatDoorPkBv
set_option maxRecDepth 100000
set_option maxHeartbeats 64000000
set_option linter.unusedVariables false
set_option linter.unusedSimpArgs false
namespace Go.Proofs.YtbbbnciejmdpfabGreatDoor
open Go.RowKit
namespace Lx
open Pp Hr
def allR (cs : List XCls) (ts : List Ty) : Bool := ts.all fun t => rightL (allL cs) t.kind t.name
def lookOk (cs : List XCls) (ts : List Ty) : Bool := Ly.layE cs == 0 && allR cs ts
theorem lay_err {cs : List XCls} (h : Ly.layE cs = 0) : errL cs = 0 := by
 unfold Ly.layE at h
 split at h
 · assumption
 · exact h
def Looked (cs : List XCls) (ok : Bool) (e : Ending) (w : World) : Prop := (ok = true /\ ∃ hv, e = .returned (.tuple #[.agg #[hv], .bool true]) /\ ProgX w hv (cs.map hd)) \/ (ok = false /\ e = .returned (.tuple #[.agg #[.slice none 0 0], .bool false]))
end Lx
theorem llook_any (cs : List Pp.XCls) (v : Value) (ts : List Pp.Ty) (tv : Value) (w : World) (ht : TabS w) (h : ProgX w v cs) (hl : Pp.Light cs) (hT : RowX w 2 TyX tv ts) (hn : ts.length <= 10) :
 Calls Tryz.prog 19 #[.agg #[v], tv] w fun e w' => Lx.Looked cs (Lx.lookOk cs ts) e w' /\ Below w.heap.size w w' := by
 have HCk := hide (fun wx (hb : Below w.heap.size w wx) => lCheck_any cs v wx (ht.below hb) (h.on hb) hl); have HHd := hide (fun wx (hb : Below w.heap.size w wx) => headsOf_any cs v w wx h hb hl); have HTb := hide (fun wx (hb : Below w.heap.size w wx) => ht.below hb); have HL := hide (Lx.light_hd hl); have HTs := hide hT; obtain ⟨pa, pc, rfl, _⟩ := h.1.len; obtain ⟨ta, tc, rfl, _⟩ := hT.len; obtain ⟨m, hm⟩ : ∃ m, m = ts.length := ⟨_, rfl⟩; have HMx := hide hm; rw [<- hm] at HTs hn ⊢; generalize cs.length = n at *
 obtain ⟨ok, hok⟩ : ∃ ok, ok = Lx.lookOk cs ts := ⟨_, rfl⟩; have HOk := hide hok; rw [<- hok]; clear hok hm h ht hl hT; have HB0 := hide (Ow.bel_alloc2 w (.cells #[.slice pa n pc] 24) (.cells #[.slice none 0 0] 24)); have HC0 := hide (Ow.blk_alloc2a w (.cells #[.slice pa n pc] 24) (.cells #[.slice none 0 0] 24)); have HR0 := hide (Ow.blk_alloc2b w (.cells #[.slice pa n pc] 24) (.cells #[.slice none 0 0] 24)); go_enter Tryz.func19, Tryz.ntmps19; go_wp2_with fail; generalize (w.alloc (.cells #[.slice pa n pc] 24)).alloc (.cells #[.slice none 0 0] 24) = w0 at *
 refine (HCk.out w0 HB0.out).mono ?_; rintro e w1 ⟨rfl, hb1⟩; have HB1 := hide (HB0.out.trans (hb1.mono HB0.out.size)); have HC1 := hide ((hb1.block _ (Ow.lt_of_blk HC0.out)).trans HC0.out); have HR1 := hide ((hb1.block _ (Ow.lt_of_blk HR0.out)).trans HR0.out); clear hb1 HB0 HC0 HR0; obtain ⟨le, hle⟩ : ∃ le, le = Ly.layE cs := ⟨_, rfl⟩; rw [<- hle]; by_cases hz : le = 0
 case neg =>
  have HF : Hid (ok = false) := hide (by rw [HOk.out]; unfold Lx.lookOk; rw [<- hle]; simp [hz])
  have g0 : (le != 0) = true := by simp [hz]
  clear hz hle; have s0 := cell_box HR1.out 0; have f0 := Ow.fz_blk HR1.out 0; have hP := Ow.blk_put HR1.out 0 (.slice none 0 0); have HBz := hide (HB1.out.setCell (p := ⟨w.heap.size + 1, 0, none⟩) (by show w.heap.size <= w.heap.size + 1; omega) (.slice none 0 0))
  have z0 := cell_box hP 0; clear hP; go_wp2_with fail; refine bodyPost_ret (v := .tuple #[.agg #[.slice none 0 0], .bool false]) (by simp [results, Tryz.results19, go_sem, *]) rfl ?_
  exact ⟨.inr ⟨HF.out, rfl⟩, HBz.out⟩
 case pos =>
  have HE := hide (hle.symm.trans hz); have g0 : (le != 0) = false := by simp [hz]
  clear hz hle; have c0 := cell_box HC1.out 0; go_wp2_with fail; refine (HHd.out w1 HB1.out).mono ?_; rintro e w2 ⟨hv, rfl, hpr, hb2⟩; have HB2 := hide (HB1.out.trans (hb2.mono HB1.out.size)); have HR2 := hide ((hb2.block _ (Ow.lt_of_blk HR1.out)).trans HR1.out); have HO2 := hide hpr; have HP2 := hide (Lx.heads_prog hpr HB2.out HL.out); clear hb2 hpr HB1 HC1 HR1 c0 HCk HHd; obtain ⟨qa, qc, hqe, _⟩ := HP2.out.1.len; subst hqe; have HO3 := hide (fun wx (hb : Below w2.heap.size w2 wx) => HO2.out.on hb fun _ _ h => h); clear HO2; generalize (cs.map Lx.hd).length = n2 at *
  have HB3 := hide (HB2.out.alloc HB2.out.size (.cells #[.slice qa n2 qc] 24)); have hA3 : Below w2.heap.size w2 (w2.alloc (.cells #[.slice qa n2 qc] 24)) := (Below.refl _ _).alloc (Nat.le_refl _) _; have HR3 := hide ((hA3.block _ (Ow.lt_of_blk HR2.out)).trans HR2.out); have HH3 := hide (heap_alloc_new w2 (.cells #[.slice qa n2 qc] 24)); have HP3 := hide (HP2.out.on hA3); have HO4 := hide (fun wx (hb : Below (w2.alloc (.cells #[.slice qa n2 qc] 24)).heap.size (w2.alloc (.cells #[.slice qa n2 qc] 24)) wx) => HO3.out wx (hA3.trans (hb.mono hA3.size))); clear hA3 HO3; go_wp2_with fail; have HT3 := hide (HTb.out _ HB3.out); generalize w2.alloc (.cells #[.slice qa n2 qc] 24) = w3 at *
  clear HP2 HR2
  go_loopw [17] (fun i wr => ∃ k : Nat, k <= m /\ i = .int .i64 k /\ Hid (Below w3.heap.size w3 wr) /\ Hid (Lx.allR cs (ts.take k) = true)) (fun i _ => m - (intOf i).toNat)
  case atStart => exact ⟨0, Nat.zero_le _, rfl, hide (Below.refl _ _), hide rfl⟩
  case round =>
   obtain ⟨k, hk, rfl, HBr, HAl⟩ := hrel; have HBw := hide (HB3.out.trans (HBr.out.mono HB3.out.size)); have HRr := hide ((HBr.out.block _ (Ow.lt_of_blk HR3.out)).trans HR3.out); have HHr := hide ((HBr.out.block _ (Ow.lt_of_blk HH3.out)).trans HH3.out); by_cases hlt : k < m
   · obtain ⟨t, hx⟩ : ∃ t, ts[k]? = some t := ⟨ts[k]'(by rw [<- HMx.out]; exact hlt), List.getElem?_eq_getElem _⟩
     obtain ⟨g1, o1, eg1, ys1, w1', hc1⟩ := Ow.row_at HTs.out hx; subst eg1; have HCx := hide (hc1 wr HBw.out); obtain ⟨rfl, hnm⟩ := w1'; have r0 := HCx.out 0 _ rfl; have r1 := HCx.out 1 _ rfl; rw [Nat.add_zero] at r0; have hlt' : (k : Int) < (m : Int) := by omega
     have hm10 : (m : Int) <= 10 := by omega
     have hA : Below wr.heap.size wr (wr.alloc (.cells #[.int .i64 t.kind, .string ⟨t.name.toArray⟩] 36)) := (Below.refl _ _).alloc (Nat.le_refl _) _; have h0 := cell_box ((hA.block _ (Ow.lt_of_blk HHr.out)).trans HHr.out) 0; have HBa := hide (HBr.out.trans (hA.mono HBr.out.size)); have HRa := hide ((hA.block _ (Ow.lt_of_blk HRr.out)).trans HRr.out); have HRi := hide (isRight_any (cs.map Lx.hd) _ t _ (HTb.out _ (HBw.out.trans (hA.mono HBw.out.size))) (HP3.out.on HBa.out) HL.out); clear hc1 hA HCx; go_wp2_with fail; refine HRi.out.mono ?_; rintro e w5 ⟨rfl, hb5⟩; rw [Lx.rightH_hd (Lx.lay_err HE.out)]; have HB5 := hide (HBa.out.trans (hb5.mono HBa.out.size)); have HR5 := hide ((hb5.block _ (Ow.lt_of_blk HRa.out)).trans HRa.out); clear hb5 HRi r0 r1 h0 HRa HBa; cases hq : Lx.rightL (Hr.allL cs) t.kind t.name with
     | false =>
       have HF : Hid (ok = false) := hide (by
        rw [HOk.out]; unfold Lx.lookOk Lx.allR; rw [Bool.and_eq_false_iff]; right; rw [List.all_eq_false]
        exact ⟨t, List.mem_of_getElem? hx, by rw [hq]; decide⟩)
       clear hq hx; have s0 := cell_box HR5.out 0; have f0 := Ow.fz_blk HR5.out 0; have hP := Ow.blk_put HR5.out 0 (.slice none 0 0); have HBz := hide ((HB3.out.trans (HB5.out.mono HB3.out.size)).setCell (p := ⟨w.heap.size + 1, 0, none⟩) (by show w.heap.size <= w.heap.size + 1; omega) (.slice none 0 0))
       have z0 := cell_box hP 0; clear hP; go_wp2_with fail; refine bodyPost_ret (v := .tuple #[.agg #[.slice none 0 0], .bool false]) (by simp [results, Tryz.results19, go_sem, *]) rfl ?_
       exact ⟨.inr ⟨HF.out, rfl⟩, HBz.out⟩
     | true =>
       have HG : Hid (Lx.allR cs (ts.take (k + 1)) = true) := hide (by
        have h1 := HAl.out; unfold Lx.allR at h1 ⊢; rw [List.take_add_one, hx, List.all_append, h1]
        simp [hq])
       clear hq hx; go_wp2_with fail
       go_roundw
       case rel => exact ⟨k + 1, by omega, by go_num, HB5, HG⟩
       case measure => simp [intOf]; omega
   · have HF : Hid (ok = true) := hide (by
      rw [HOk.out]; unfold Lx.lookOk; rw [HE.out]; have h1 := HAl.out; rw [List.take_of_length_le (by rw [<- HMx.out]; omega)] at h1
      rw [h1]; rfl)
     have hnl : ¬ ((k : Int) < (m : Int)) := by omega
     have h0 := cell_box HHr.out 0; have s0 := cell_box HRr.out 0; have f0 := Ow.fz_blk HRr.out 0; have hP := Ow.blk_put HRr.out 0 (.slice qa n2 qc); have HBz := hide (HBw.out.setCell (p := ⟨w.heap.size + 1, 0, none⟩) (by show w.heap.size <= w.heap.size + 1; omega) (.slice qa n2 qc))
     have z0 := cell_box hP 0; have hK : Ow.Kx 24 wr (wr.setCell ⟨w.heap.size + 1, 0, none⟩ (.slice qa n2 qc)) := Ow.Kx.set ⟨_, _, HRr.out⟩ 0 (.slice qa n2 qc); have HPz := hide (Lx.heads_prog ((HO4.out wr HBr.out).kx hK (by decide) fun _ _ h => h) HBz.out HL.out)
     clear hK; clear hP; go_wp2_with fail; refine bodyPost_ret (v := .tuple #[.agg #[.slice qa n2 qc], .bool true]) (by simp [results, Tryz.results19, go_sem, *]) rfl ?_
     exact ⟨.inl ⟨HF.out, _, rfl, HPz.out⟩, HBz.out⟩
namespace Lx
open Pp Hr
theorem self_under {cs : List XCls} (he : errL cs = 0) {a : Bs} (h : Known cs a) : underQ cs a a := by
 obtain ⟨p, c, hc, rfl⟩ := h; exact under_self he hc
theorem top_under {cs : List XCls} (he : errL cs = 0) {a : Bs} (h : Known cs a) : underQ cs a objN := by
 obtain ⟨p, c, hc, rfl⟩ := h; exact under_top he hc
end Lx
namespace Lx
open Pp Hr
theorem known_hd {cs : List XCls} {a : Bs} (h : Known cs a) : Known (cs.map hd) a := by
 obtain ⟨p, c, hc, hn⟩ := h; exact ⟨p, hd c, by rw [all_hd, at_hd, hc]; rfl, hn⟩
theorem climb_hd {cs : List XCls} (he : errL cs = 0) (b : Bs) : ∀ (f : Nat) (a : Bs), climbN (cs.map hd) b f a = climbN cs b f a
 | 0, _ => rfl
 | f + 1, a => by
   unfold climbN; rw [underB_hd he, superQ_hd he]; simp only [climb_hd he b f]
theorem meetN_hd {cs : List XCls} (he : errL cs = 0) (a b : Bs) : meetN (cs.map hd) a b = meetN cs a b := by
 unfold meetN; rw [underB_hd he, climb_hd he, all_hd, List.length_map]
theorem meetL_hd {cs : List XCls} (he : errL cs = 0) (ka kb : Int) (na nb : Bs) : meetL (cs.map hd) ka kb na nb = meetL cs ka kb na nb := by
 unfold meetL; rw [meetN_hd he]
theorem right_known {cs : List XCls} {k : Int} {n : Bs} (h : rightL (allL cs) k n = true) (h3 : k = 3) : Known cs n := by
 obtain ⟨q, hq⟩ := right_ref h h3; exact known_place hq
def fitsX (cs : List XCls) (a b : Ty) : Bool := lookOk cs [a, b] && fitsH cs a.kind b.kind a.name b.name
def meetX (cs : List XCls) (a b : Ty) : (Int × Bs) × Int := if lookOk cs [a, b] = true then (meetL cs a.kind b.kind a.name b.name, 0) else ((0, []), 8)
theorem look_two {cs : List XCls} {a b : Ty} (h : lookOk cs [a, b] = true) : Ly.layE cs = 0 /\ rightL (allL cs) a.kind a.name = true /\ rightL (allL cs) b.kind b.name = true := by
 unfold lookOk allR at h
 simpa using h
theorem look_err {cs : List XCls} {ts : List Ty} (h : lookOk cs ts = true) : errL cs = 0 := by
 unfold lookOk at h; simp only [Bool.and_eq_true, beq_iff_eq] at h; exact lay_err h.1
end Lx
theorem tys_one {w : World} {t : Pp.Ty} (hn : t.name.length <= maxLen) : RowX (w.alloc (.cells #[.int .i64 t.kind, .string ⟨t.name.toArray⟩] 36)) 2 TyX (.slice (some ⟨w.heap.size, 0, none⟩) 1 1) [t] :=
 Ow.row_one (ys := tyL t) ⟨rfl, hn⟩
theorem tys_two {w : World} {t u : Pp.Ty} (hn : t.name.length <= maxLen) (hm : u.name.length <= maxLen) : RowX (w.alloc (.cells #[.int .i64 t.kind, .string ⟨t.name.toArray⟩, .int .i64 u.kind, .string ⟨u.name.toArray⟩] 36)) 2 TyX (.slice (some ⟨w.heap.size, 0, none⟩) 2 2) [t, u] := by
 refine ⟨_, 2, rfl, Nat.le_refl _, .inr ⟨_, _, rfl, by simp, fun k y hk => ?_⟩⟩
 have hb : (w.alloc (.cells #[.int .i64 t.kind, .string ⟨t.name.toArray⟩, .int .i64 u.kind, .string ⟨u.name.toArray⟩] 36)).heap[w.heap.size]? = some (.cells #[.int .i64 t.kind, .string ⟨t.name.toArray⟩, .int .i64 u.kind, .string ⟨u.name.toArray⟩] 36 (0, 0)) := heap_alloc_new w _
 match k, hk with
 | 0, hk =>
   cases hk; refine ⟨_, ⟨rfl, hn⟩, fun j u hj => ?_⟩; rw [cell_box hb]
   match j, hj with
   | 0, hj => exact hj
   | 1, hj => exact hj
   | j + 2, hj => simp [tyL] at hj
 | 1, hk =>
   cases hk; refine ⟨_, ⟨rfl, hm⟩, fun j u hj => ?_⟩; rw [cell_box hb]
   match j, hj with
   | 0, hj => exact hj
   | 1, hj => exact hj
   | j + 2, hj => simp [tyL] at hj
 | k + 2, hk => simp at hk
theorem LRight_any (cs : List Pp.XCls) (v : Value) (t : Pp.Ty) (w : World) (ht : TabS w) (h : ProgX w v cs) (hl : Pp.Light cs) (hn : t.name.length <= maxLen) :
 Calls Tryz.prog 25 #[.agg #[v], .agg #[.int .i64 t.kind, .string ⟨t.name.toArray⟩]] w fun e w' => e = .returned (.bool (Lx.lookOk cs [t])) /\ Below w.heap.size w w' := by
 have HLk := hide (fun tv wx (hb : Below w.heap.size w wx) (hT : RowX wx 2 TyX tv [t]) => llook_any cs v [t] tv wx (ht.below hb) (h.on hb) hl hT (by show 1 <= 10; omega))
 obtain ⟨pa, pc, rfl, _⟩ := h.1.len; generalize cs.length = n at *
 obtain ⟨ka, na⟩ := t; clear h ht hl; have HB0 := hide (Ow.bel_alloc2 w (.cells #[.slice pa n pc] 24) (.cells #[.int .i64 ka, .string ⟨na.toArray⟩] 36)); have HT0 := hide (tys_one (w := (w.alloc (.cells #[.slice pa n pc] 24)).alloc (.cells #[.int .i64 ka, .string ⟨na.toArray⟩] 36)) (t := ⟨ka, na⟩) hn); have hsz : ((w.alloc (.cells #[.slice pa n pc] 24)).alloc (.cells #[.int .i64 ka, .string ⟨na.toArray⟩] 36)).heap.size = w.heap.size + 1 + 1 := by simp
 rw [hsz] at HT0; have HB1 := hide (HB0.out.alloc HB0.out.size (.cells #[.int .i64 ka, .string ⟨na.toArray⟩] 36)); clear hsz; go_enter Tryz.func25, Tryz.ntmps25; go_wp2_with fail; refine (HLk.out _ _ HB1.out HT0.out).mono ?_; rintro e w5 ⟨hq, hb5⟩; have HB5 := hide (HB1.out.trans (hb5.mono HB1.out.size)); clear hb5 HLk HT0
 have hs : ∃ a n c, e = .returned (.tuple #[.agg #[.slice a n c], .bool (Lx.lookOk cs [⟨ka, na⟩])]) := by
  rcases hq with ⟨ho, hv, rfl, hpr⟩ | ⟨ho, rfl⟩
  · obtain ⟨qa, qc, rfl, _⟩ := hpr.1.len
    exact ⟨_, _, _, by rw [ho]⟩
  · exact ⟨_, _, _, by rw [ho]⟩
 obtain ⟨qa, qn, qc, rfl⟩ := hs; clear hq; cases ho : Lx.lookOk cs [⟨ka, na⟩]
 all_goals
  have HF := hide ho; clear ho; go_wp2_with fail; go_ret; exact ⟨by rw [HF.out] <;> rfl, HB5.out.alloc HB5.out.size _⟩
theorem LFits_any (cs : List Pp.XCls) (v : Value) (a b : Pp.Ty) (w : World) (ht : TabS w) (h : ProgX w v cs) (hl : Pp.Light cs) (hna : a.name.length <= maxLen) (hnb : b.name.length <= maxLen) :
 Calls Tryz.prog 7 #[.agg #[v], .agg #[.int .i64 a.kind, .string ⟨a.name.toArray⟩], .agg #[.int .i64 b.kind, .string ⟨b.name.toArray⟩]] w fun e w' => e = .returned (.bool (Lx.fitsX cs a b)) /\ Below w.heap.size w w' := by
 have HLk := hide (fun tv wx (hb : Below w.heap.size w wx) (hT : RowX wx 2 TyX tv [a, b]) => llook_any cs v [a, b] tv wx (ht.below hb) (h.on hb) hl hT (by show 2 <= 10; omega))
 have HTb := hide (fun wx (hb : Below w.heap.size w wx) => ht.below hb); obtain ⟨pa, pc, rfl, _⟩ := h.1.len; generalize cs.length = n at *
 obtain ⟨ka, na⟩ := a; obtain ⟨kb, nb⟩ := b; clear h ht hl; have b1 := (Below.refl w.heap.size w).alloc (Nat.le_refl _) (.cells #[.slice pa n pc] 24); have b2 := b1.alloc b1.size (.cells #[.int .i64 ka, .string ⟨na.toArray⟩] 36); have b3 := b2.alloc b2.size (.cells #[.int .i64 kb, .string ⟨nb.toArray⟩] 36); have HB1 := hide (b3.alloc b3.size (.cells #[.int .i64 ka, .string ⟨na.toArray⟩, .int .i64 kb, .string ⟨nb.toArray⟩] 36)); have HT0 := hide (tys_two (w := ((w.alloc (.cells #[.slice pa n pc] 24)).alloc (.cells #[.int .i64 ka, .string ⟨na.toArray⟩] 36)).alloc (.cells #[.int .i64 kb, .string ⟨nb.toArray⟩] 36)) (t := ⟨ka, na⟩) (u := ⟨kb, nb⟩) hna hnb); have hsz : (((w.alloc (.cells #[.slice pa n pc] 24)).alloc (.cells #[.int .i64 ka, .string ⟨na.toArray⟩] 36)).alloc (.cells #[.int .i64 kb, .string ⟨nb.toArray⟩] 36)).heap.size = w.heap.size + 1 + 1 + 1 := by simp
 rw [hsz] at HT0; have x1 := (Below.refl (w.heap.size + 1) (w.alloc (.cells #[.slice pa n pc] 24))).alloc (by simp) (.cells #[.int .i64 ka, .string ⟨na.toArray⟩] 36)
 have hA2 : (((w.alloc (.cells #[.slice pa n pc] 24)).alloc (.cells #[.int .i64 ka, .string ⟨na.toArray⟩] 36)).alloc (.cells #[.int .i64 kb, .string ⟨nb.toArray⟩] 36) |>.alloc (.cells #[.int .i64 ka, .string ⟨na.toArray⟩, .int .i64 kb, .string ⟨nb.toArray⟩] 36)).heap[w.heap.size + 1]? = some (.cells #[.int .i64 ka, .string ⟨na.toArray⟩] 36 (0, 0)) := by
  have q := heap_alloc_new (w.alloc (.cells #[.slice pa n pc] 24)) (.cells #[.int .i64 ka, .string ⟨na.toArray⟩] 36); have e1 : (w.alloc (.cells #[.slice pa n pc] 24)).heap.size = w.heap.size + 1 := by simp
  rw [e1] at q; exact (heap_alloc_old _ _ (by simp)).trans ((heap_alloc_old _ _ (by simp)).trans q)
 have hT2 : (((w.alloc (.cells #[.slice pa n pc] 24)).alloc (.cells #[.int .i64 ka, .string ⟨na.toArray⟩] 36)).alloc (.cells #[.int .i64 kb, .string ⟨nb.toArray⟩] 36) |>.alloc (.cells #[.int .i64 ka, .string ⟨na.toArray⟩, .int .i64 kb, .string ⟨nb.toArray⟩] 36)).heap[w.heap.size + 1 + 1]? = some (.cells #[.int .i64 kb, .string ⟨nb.toArray⟩] 36 (0, 0)) := by
  have q := heap_alloc_new ((w.alloc (.cells #[.slice pa n pc] 24)).alloc (.cells #[.int .i64 ka, .string ⟨na.toArray⟩] 36)) (.cells #[.int .i64 kb, .string ⟨nb.toArray⟩] 36); have e1 : ((w.alloc (.cells #[.slice pa n pc] 24)).alloc (.cells #[.int .i64 ka, .string ⟨na.toArray⟩] 36)).heap.size = w.heap.size + 1 + 1 := by simp
  rw [e1] at q; exact (heap_alloc_old _ _ (by simp)).trans q
 have HA2 := hide hA2; have HT2 := hide hT2; clear hsz b1 b2 b3 x1 hA2 hT2; go_enter Tryz.func7, Tryz.ntmps7; go_wp2_with fail; refine (HLk.out _ _ HB1.out HT0.out).mono ?_; generalize (((w.alloc (.cells #[.slice pa n pc] 24)).alloc (.cells #[.int .i64 ka, .string ⟨na.toArray⟩] 36)).alloc (.cells #[.int .i64 kb, .string ⟨nb.toArray⟩] 36)).alloc (.cells #[.int .i64 ka, .string ⟨na.toArray⟩, .int .i64 kb, .string ⟨nb.toArray⟩] 36) = w4 at *
 rintro e w5 ⟨hq, hb5⟩; have HB5 := hide (HB1.out.trans (hb5.mono HB1.out.size)); have HA5 := hide ((hb5.block _ (Ow.lt_of_blk HA2.out)).trans HA2.out); have HT5 := hide ((hb5.block _ (Ow.lt_of_blk HT2.out)).trans HT2.out); clear hb5 HLk HT0 HA2 HT2
 rcases hq with ⟨ho, hv, rfl, hpr⟩ | ⟨ho, rfl⟩
 · have HF := hide ho
   clear ho; obtain ⟨qa, qc, hqe, _⟩ := hpr.1.len; subst hqe; have hA6 : Below w5.heap.size w5 (w5.alloc (.cells #[.slice qa (cs.map Lx.hd).length qc] 24)) := (Below.refl _ _).alloc (Nat.le_refl _) _; have HB6 := hide (HB5.out.trans (hA6.mono HB5.out.size)); have a0 := cell_box ((hA6.block _ (Ow.lt_of_blk HA5.out)).trans HA5.out) 0; have a1 := cell_box ((hA6.block _ (Ow.lt_of_blk HA5.out)).trans HA5.out) 1; have b0 := cell_box ((hA6.block _ (Ow.lt_of_blk HT5.out)).trans HT5.out) 0; have b1 := cell_box ((hA6.block _ (Ow.lt_of_blk HT5.out)).trans HT5.out) 1; have HFi := hide (fits_any (cs.map Lx.hd) _ ka kb na nb _ (HTb.out _ HB6.out) (hpr.on hA6)); clear hA6 hpr; generalize (cs.map Lx.hd).length = n2 at *
   go_wp2_with fail; refine HFi.out.mono ?_; rintro e w7 ⟨rfl, hb7⟩; have HB7 := hide (HB6.out.trans (hb7.mono HB6.out.size)); have HE := hide (Lx.look_err HF.out); rw [Lx.fitsH_hd HE.out]; have HG : Hid (Lx.fitsX cs ⟨ka, na⟩ ⟨kb, nb⟩ = Lx.fitsH cs ka kb na nb) := hide (by unfold Lx.fitsX; rw [HF.out]; rfl)
   clear hb7 a0 a1 b0 b1; go_wp2_with fail; go_ret; exact ⟨by rw [HG.out] <;> rfl, HB7.out⟩
 · have HF : Hid (Lx.fitsX cs ⟨ka, na⟩ ⟨kb, nb⟩ = false) := hide (by unfold Lx.fitsX; rw [ho]; rfl)
   clear ho; go_wp2_with fail; go_ret; exact ⟨by rw [HF.out] <;> rfl, HB5.out.alloc HB5.out.size _⟩
theorem LMeet_any (cs : List Pp.XCls) (v : Value) (a b : Pp.Ty) (w : World) (ht : TabS w) (h : ProgX w v cs) (hl : Pp.Light cs) (hna : a.name.length <= maxLen) (hnb : b.name.length <= maxLen) :
 Calls Tryz.prog 24 #[.agg #[v], .agg #[.int .i64 a.kind, .string ⟨a.name.toArray⟩], .agg #[.int .i64 b.kind, .string ⟨b.name.toArray⟩]] w fun e w' => e = .returned (.tuple #[.agg #[.int .i64 (Lx.meetX cs a b).1.1, .string ⟨(Lx.meetX cs a b).1.2.toArray⟩], .int .i64 (Lx.meetX cs a b).2]) /\ Below w.heap.size w w' := by
 have HLk := hide (fun tv wx (hb : Below w.heap.size w wx) (hT : RowX wx 2 TyX tv [a, b]) => llook_any cs v [a, b] tv wx (ht.below hb) (h.on hb) hl hT (by show 2 <= 10; omega))
 have HTb := hide (fun wx (hb : Below w.heap.size w wx) => ht.below hb); obtain ⟨pa, pc, rfl, _⟩ := h.1.len; generalize cs.length = n at *
 obtain ⟨ka, na⟩ := a; obtain ⟨kb, nb⟩ := b; clear h ht hl; have b1 := (Below.refl w.heap.size w).alloc (Nat.le_refl _) (.cells #[.slice pa n pc] 24); have b2 := b1.alloc b1.size (.cells #[.int .i64 ka, .string ⟨na.toArray⟩] 36); have b3 := b2.alloc b2.size (.cells #[.int .i64 kb, .string ⟨nb.toArray⟩] 36); have b4 := b3.alloc b3.size (.cells #[.int .i64 0, .string ⟨#[]⟩] 36); have HB1 := hide (b4.alloc b4.size (.cells #[.int .i64 ka, .string ⟨na.toArray⟩, .int .i64 kb, .string ⟨nb.toArray⟩] 36)); have HT0 := hide (tys_two (w := (((w.alloc (.cells #[.slice pa n pc] 24)).alloc (.cells #[.int .i64 ka, .string ⟨na.toArray⟩] 36)).alloc (.cells #[.int .i64 kb, .string ⟨nb.toArray⟩] 36)).alloc (.cells #[.int .i64 0, .string ⟨#[]⟩] 36)) (t := ⟨ka, na⟩) (u := ⟨kb, nb⟩) hna hnb); have hsz : ((((w.alloc (.cells #[.slice pa n pc] 24)).alloc (.cells #[.int .i64 ka, .string ⟨na.toArray⟩] 36)).alloc (.cells #[.int .i64 kb, .string ⟨nb.toArray⟩] 36)).alloc (.cells #[.int .i64 0, .string ⟨#[]⟩] 36)).heap.size = w.heap.size + 1 + 1 + 1 + 1 := by simp
 rw [hsz] at HT0
 have hA2 : ((((w.alloc (.cells #[.slice pa n pc] 24)).alloc (.cells #[.int .i64 ka, .string ⟨na.toArray⟩] 36)).alloc (.cells #[.int .i64 kb, .string ⟨nb.toArray⟩] 36)).alloc (.cells #[.int .i64 0, .string ⟨#[]⟩] 36) |>.alloc (.cells #[.int .i64 ka, .string ⟨na.toArray⟩, .int .i64 kb, .string ⟨nb.toArray⟩] 36)).heap[w.heap.size + 1]? = some (.cells #[.int .i64 ka, .string ⟨na.toArray⟩] 36 (0, 0)) := by
  have q := heap_alloc_new (w.alloc (.cells #[.slice pa n pc] 24)) (.cells #[.int .i64 ka, .string ⟨na.toArray⟩] 36); have e1 : (w.alloc (.cells #[.slice pa n pc] 24)).heap.size = w.heap.size + 1 := by simp
  rw [e1] at q; exact (heap_alloc_old _ _ (by simp)).trans ((heap_alloc_old _ _ (by simp)).trans ((heap_alloc_old _ _ (by simp)).trans q))
 have hT2 : ((((w.alloc (.cells #[.slice pa n pc] 24)).alloc (.cells #[.int .i64 ka, .string ⟨na.toArray⟩] 36)).alloc (.cells #[.int .i64 kb, .string ⟨nb.toArray⟩] 36)).alloc (.cells #[.int .i64 0, .string ⟨#[]⟩] 36) |>.alloc (.cells #[.int .i64 ka, .string ⟨na.toArray⟩, .int .i64 kb, .string ⟨nb.toArray⟩] 36)).heap[w.heap.size + 1 + 1]? = some (.cells #[.int .i64 kb, .string ⟨nb.toArray⟩] 36 (0, 0)) := by
  have q := heap_alloc_new ((w.alloc (.cells #[.slice pa n pc] 24)).alloc (.cells #[.int .i64 ka, .string ⟨na.toArray⟩] 36)) (.cells #[.int .i64 kb, .string ⟨nb.toArray⟩] 36); have e1 : ((w.alloc (.cells #[.slice pa n pc] 24)).alloc (.cells #[.int .i64 ka, .string ⟨na.toArray⟩] 36)).heap.size = w.heap.size + 1 + 1 := by simp
  rw [e1] at q; exact (heap_alloc_old _ _ (by simp)).trans ((heap_alloc_old _ _ (by simp)).trans q)
 have hR2 : ((((w.alloc (.cells #[.slice pa n pc] 24)).alloc (.cells #[.int .i64 ka, .string ⟨na.toArray⟩] 36)).alloc (.cells #[.int .i64 kb, .string ⟨nb.toArray⟩] 36)).alloc (.cells #[.int .i64 0, .string ⟨#[]⟩] 36) |>.alloc (.cells #[.int .i64 ka, .string ⟨na.toArray⟩, .int .i64 kb, .string ⟨nb.toArray⟩] 36)).heap[w.heap.size + 3]? = some (.cells #[.int .i64 0, .string ⟨#[]⟩] 36 (0, 0)) := by
  have q := heap_alloc_new (((w.alloc (.cells #[.slice pa n pc] 24)).alloc (.cells #[.int .i64 ka, .string ⟨na.toArray⟩] 36)).alloc (.cells #[.int .i64 kb, .string ⟨nb.toArray⟩] 36)) (.cells #[.int .i64 0, .string ⟨#[]⟩] 36); have e1 : (((w.alloc (.cells #[.slice pa n pc] 24)).alloc (.cells #[.int .i64 ka, .string ⟨na.toArray⟩] 36)).alloc (.cells #[.int .i64 kb, .string ⟨nb.toArray⟩] 36)).heap.size = w.heap.size + 3 := by simp
  rw [e1] at q; exact (heap_alloc_old _ _ (by simp)).trans q
 have HA2 := hide hA2; have HT2 := hide hT2; have HR2 := hide hR2; clear hsz b1 b2 b3 b4 hA2 hT2 hR2; go_enter Tryz.func24, Tryz.ntmps24; go_wp2_with fail; refine (HLk.out _ _ HB1.out HT0.out).mono ?_; generalize ((((w.alloc (.cells #[.slice pa n pc] 24)).alloc (.cells #[.int .i64 ka, .string ⟨na.toArray⟩] 36)).alloc (.cells #[.int .i64 kb, .string ⟨nb.toArray⟩] 36)).alloc (.cells #[.int .i64 0, .string ⟨#[]⟩] 36)).alloc (.cells #[.int .i64 ka, .string ⟨na.toArray⟩, .int .i64 kb, .string ⟨nb.toArray⟩] 36) = w4 at *
 rintro e w5 ⟨hq, hb5⟩; have HB5 := hide (HB1.out.trans (hb5.mono HB1.out.size)); have HA5 := hide ((hb5.block _ (Ow.lt_of_blk HA2.out)).trans HA2.out); have HT5 := hide ((hb5.block _ (Ow.lt_of_blk HT2.out)).trans HT2.out); have HR5 := hide ((hb5.block _ (Ow.lt_of_blk HR2.out)).trans HR2.out); clear hb5 HLk HT0 HA2 HT2 HR2
 rcases hq with ⟨ho, hv, rfl, hpr⟩ | ⟨ho, rfl⟩
 · have HF := hide ho
   obtain ⟨_, hra, _⟩ := Lx.look_two ho; have HK := hide (fun h3 => Lx.known_hd (Lx.right_known hra h3)); clear ho hra; have HE := hide (Lx.look_err HF.out); obtain ⟨qa, qc, hqe, _⟩ := hpr.1.len; subst hqe; have hA6 : Below w5.heap.size w5 (w5.alloc (.cells #[.slice qa (cs.map Lx.hd).length qc] 24)) := (Below.refl _ _).alloc (Nat.le_refl _) _; have HB6 := hide (HB5.out.trans (hA6.mono HB5.out.size)); have a0 := cell_box ((hA6.block _ (Ow.lt_of_blk HA5.out)).trans HA5.out) 0; have a1 := cell_box ((hA6.block _ (Ow.lt_of_blk HA5.out)).trans HA5.out) 1; have b0 := cell_box ((hA6.block _ (Ow.lt_of_blk HT5.out)).trans HT5.out) 0; have b1 := cell_box ((hA6.block _ (Ow.lt_of_blk HT5.out)).trans HT5.out) 1; have HR6 := hide ((hA6.block _ (Ow.lt_of_blk HR5.out)).trans HR5.out); have HFi := hide (meet_any (cs.map Lx.hd) _ ka kb na nb _ (HTb.out _ HB6.out) (hpr.on hA6) (Lx.err_hd HE.out) (fun h _ => HK.out h)); clear hA6 hpr; generalize (cs.map Lx.hd).length = n2 at *
   go_wp2_with fail; refine HFi.out.mono ?_; rintro e w7 ⟨rfl, hb7⟩; have HB7 := hide (HB6.out.trans (hb7.mono HB6.out.size)); have HR7 := hide ((hb7.block _ (Ow.lt_of_blk HR6.out)).trans HR6.out); rw [Lx.meetL_hd HE.out]; have HG : Hid (Lx.meetX cs ⟨ka, na⟩ ⟨kb, nb⟩ = (Lx.meetL cs ka kb na nb, 0)) := hide (by unfold Lx.meetX; rw [if_pos HF.out])
   clear hb7 a0 a1 b0 b1; generalize Lx.meetL cs ka kb na nb = r at *
   obtain ⟨rk, rn⟩ := r; have hP := Ow.blk_put (Ow.blk_put HR7.out 0 (.int .i64 rk)) 1 (.string ⟨rn.toArray⟩); have HBz := hide ((HB7.out.setCell (p := ⟨w.heap.size + 3, 0, none⟩) (by show w.heap.size <= w.heap.size + 3; omega) (.int .i64 rk)).setCell (p := ⟨w.heap.size + 3, 1, none⟩) (by show w.heap.size <= w.heap.size + 3; omega) (.string ⟨rn.toArray⟩))
   have s0 := cell_box HR7.out 0; have s1 := cell_box HR7.out 1; have f0 := Ow.fz_blk HR7.out 0; have f1 := Ow.fz_blk HR7.out 1; have z0 := cell_box hP 0; have z1 := cell_box hP 1; clear hP; go_wp2_with fail; refine bodyPost_ret (v := .tuple #[.agg #[.int .i64 rk, .string ⟨rn.toArray⟩], .int .i64 0]) (by simp [results, Tryz.results24, go_sem, *]) rfl ?_
   exact ⟨by rw [HG.out] <;> rfl, HBz.out⟩
 · have HG : Hid (Lx.meetX cs ⟨ka, na⟩ ⟨kb, nb⟩ = ((0, []), 8)) := hide (by unfold Lx.meetX; rw [if_neg (by rw [ho]; decide)])
   clear ho; have hA6 : Below w5.heap.size w5 (w5.alloc (.cells #[.slice none 0 0] 24)) := (Below.refl _ _).alloc (Nat.le_refl _) _; have HB6 := hide (HB5.out.trans (hA6.mono HB5.out.size)); have HR6 := hide ((hA6.block _ (Ow.lt_of_blk HR5.out)).trans HR5.out); clear hA6; have hP := Ow.blk_put (Ow.blk_put HR6.out 0 (.int .i64 0)) 1 (.string ⟨#[]⟩); have HBz := hide ((HB6.out.setCell (p := ⟨w.heap.size + 3, 0, none⟩) (by show w.heap.size <= w.heap.size + 3; omega) (.int .i64 0)).setCell (p := ⟨w.heap.size + 3, 1, none⟩) (by show w.heap.size <= w.heap.size + 3; omega) (.string ⟨#[]⟩))
   have s0 := cell_box HR6.out 0; have s1 := cell_box HR6.out 1; have f0 := Ow.fz_blk HR6.out 0; have f1 := Ow.fz_blk HR6.out 1; have z0 := cell_box hP 0; have z1 := cell_box hP 1; clear hP; go_wp2_with fail; refine bodyPost_ret (v := .tuple #[.agg #[.int .i64 0, .string ⟨#[]⟩], .int .i64 8]) (by simp [results, Tryz.results24, go_sem, *]) rfl ?_
   exact ⟨by rw [HG.out] <;> rfl, HBz.out⟩
end Go.Proofs.YtbbbnciejmdpfabGreatDoor

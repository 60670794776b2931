/- What the laws of this seat lean on: 5 texts. -/
import Derived.Test.YtbbbnciejmdpfaaGreatDoorPkAy
import Derived.Deep.RegionHeld3
import Derived.Test.YtbbbnciejmdpfaaGreatDoorPkAa
import Derived.Test.YtbbbnciejmdpfaaGreatDoorPkAf
import Derived.Test.YtbbbnciejmdpfaaGreatDoorCards
import Derived.Test.YtbbbnciejmdpfaaGreatDoorTie
import Derived.ProofKit
import Derived.OpenShut
import Derived.Deep.DeepHandedRow
import Derived.Lib.LaidTab
import Derived.LaidSub
import Derived.ChangeOld
import Derived.ShutString
set_option maxRecDepth 100000
set_option maxHeartbeats 64000000
set_option linter.unusedVariables false
set_option linter.unusedSimpArgs false
namespace Go.Proofs.YtbbbnciejmdpfaaGreatDoor
open Go.RowKit
namespace Lx
open Pp Hr
theorem known_hd {cs : List XCls} {a : Bs} (h : Known cs a) : Known (cs.map hd) a := by
 obtain ⟨p, c, hc, hn⟩ := h; exact ⟨p, hd c, by rw [all_hd, at_hd, hc]; rfl, hn⟩
theorem climb_hd {cs : List XCls} (he : errL cs = 0) (b : Bs) : ∀ (f : Nat) (a : Bs), climbN (cs.map hd) b f a = climbN cs b f a
 | 0, _ => rfl
 | f + 1, a => by
   unfold climbN; rw [underB_hd he, superQ_hd he]; simp only [climb_hd he b f]
theorem meetN_hd {cs : List XCls} (he : errL cs = 0) (a b : Bs) : meetN (cs.map hd) a b = meetN cs a b := by
 unfold meetN; rw [underB_hd he, climb_hd he, all_hd, List.length_map]
theorem meetL_hd {cs : List XCls} (he : errL cs = 0) (ka kb : Int) (na nb : Bs) : meetL (cs.map hd) ka kb na nb = meetL cs ka kb na nb := by
 unfold meetL; rw [meetN_hd he]
theorem right_known {cs : List XCls} {k : Int} {n : Bs} (h : rightL (allL cs) k n = true) (h3 : k = 3) : Known cs n := by
 obtain ⟨q, hq⟩ := right_ref h h3; exact known_place hq
def fitsX (cs : List XCls) (a b : Ty) : Bool := lookOk cs [a, b] && fitsH cs a.kind b.kind a.name b.name
def meetX (cs : List XCls) (a b : Ty) : (Int × Bs) × Int := if lookOk cs [a, b] = true then (meetL cs a.kind b.kind a.name b.name, 0) else ((0, []), 8)
theorem look_two {cs : List XCls} {a b : Ty} (h : lookOk cs [a, b] = true) : Ly.layE cs = 0 /\ rightL (allL cs) a.kind a.name = true /\ rightL (allL cs) b.kind b.name = true := by
 unfold lookOk allR at h
 simpa using h
theorem look_err {cs : List XCls} {ts : List Ty} (h : lookOk cs ts = true) : errL cs = 0 := by
 unfold lookOk at h; simp only [Bool.and_eq_true, beq_iff_eq] at h; exact lay_err h.1
end Lx
theorem tys_one {w : World} {t : Pp.Ty} (hn : t.name.length <= maxLen) : RowX (w.alloc (.cells #[.int .i64 t.kind, .string ⟨t.name.toArray⟩] 26)) 2 TyX (.slice (some ⟨w.heap.size, 0, none⟩) 1 1) [t] :=
 Ow.row_one (ys := tyL t) ⟨rfl, hn⟩
theorem tys_two {w : World} {t u : Pp.Ty} (hn : t.name.length <= maxLen) (hm : u.name.length <= maxLen) : RowX (w.alloc (.cells #[.int .i64 t.kind, .string ⟨t.name.toArray⟩, .int .i64 u.kind, .string ⟨u.name.toArray⟩] 26)) 2 TyX (.slice (some ⟨w.heap.size, 0, none⟩) 2 2) [t, u] := by
 refine ⟨_, 2, rfl, Nat.le_refl _, .inr ⟨_, _, rfl, by simp, fun k y hk => ?_⟩⟩
 have hb : (w.alloc (.cells #[.int .i64 t.kind, .string ⟨t.name.toArray⟩, .int .i64 u.kind, .string ⟨u.name.toArray⟩] 26)).heap[w.heap.size]? = some (.cells #[.int .i64 t.kind, .string ⟨t.name.toArray⟩, .int .i64 u.kind, .string ⟨u.name.toArray⟩] 26 (0, 0)) := heap_alloc_new w _
 match k, hk with
 | 0, hk =>
   cases hk; refine ⟨_, ⟨rfl, hn⟩, fun j u hj => ?_⟩; rw [cell_box hb]
   match j, hj with
   | 0, hj => exact hj
   | 1, hj => exact hj
   | j + 2, hj => simp [tyL] at hj
 | 1, hk =>
   cases hk; refine ⟨_, ⟨rfl, hm⟩, fun j u hj => ?_⟩; rw [cell_box hb]
   match j, hj with
   | 0, hj => exact hj
   | 1, hj => exact hj
   | j + 2, hj => simp [tyL] at hj
 | k + 2, hk => simp at hk
theorem LRight_any (cs : List Pp.XCls) (v : Value) (t : Pp.Ty) (w : World) (ht : TabS w) (h : ProgX w v cs) (hl : Pp.Light cs) (hn : t.name.length <= maxLen) :
 Calls Tryz.prog 12 #[.agg #[v], .agg #[.int .i64 t.kind, .string ⟨t.name.toArray⟩]] w fun e w' => e = .returned (.bool (Lx.lookOk cs [t])) /\ Below w.heap.size w w' := by
 have HLk := hide (fun tv wx (hb : Below w.heap.size w wx) (hT : RowX wx 2 TyX tv [t]) => llook_any cs v [t] tv wx (ht.below hb) (h.on hb) hl hT (by show 1 <= 10; omega))
 obtain ⟨pa, pc, rfl, _⟩ := h.1.len; generalize cs.length = n at *
 obtain ⟨ka, na⟩ := t; clear h ht hl; have HB0 := hide (Ow.bel_alloc2 w (.cells #[.slice pa n pc] 24) (.cells #[.int .i64 ka, .string ⟨na.toArray⟩] 26)); have HT0 := hide (tys_one (w := (w.alloc (.cells #[.slice pa n pc] 24)).alloc (.cells #[.int .i64 ka, .string ⟨na.toArray⟩] 26)) (t := ⟨ka, na⟩) hn); have hsz : ((w.alloc (.cells #[.slice pa n pc] 24)).alloc (.cells #[.int .i64 ka, .string ⟨na.toArray⟩] 26)).heap.size = w.heap.size + 1 + 1 := by simp
 rw [hsz] at HT0; have HB1 := hide (HB0.out.alloc HB0.out.size (.cells #[.int .i64 ka, .string ⟨na.toArray⟩] 26)); clear hsz; go_enter Tryz.func12, Tryz.ntmps12; go_wp2_with fail; refine (HLk.out _ _ HB1.out HT0.out).mono ?_; rintro e w5 ⟨hq, hb5⟩; have HB5 := hide (HB1.out.trans (hb5.mono HB1.out.size)); clear hb5 HLk HT0
 have hs : ∃ a n c, e = .returned (.tuple #[.agg #[.slice a n c], .bool (Lx.lookOk cs [⟨ka, na⟩])]) := by
  rcases hq with ⟨ho, hv, rfl, hpr⟩ | ⟨ho, rfl⟩
  · obtain ⟨qa, qc, rfl, _⟩ := hpr.1.len
    exact ⟨_, _, _, by rw [ho]⟩
  · exact ⟨_, _, _, by rw [ho]⟩
 obtain ⟨qa, qn, qc, rfl⟩ := hs; clear hq; cases ho : Lx.lookOk cs [⟨ka, na⟩]
 all_goals
  have HF := hide ho; clear ho; go_wp2_with fail; go_ret; exact ⟨by rw [HF.out] <;> rfl, HB5.out.alloc HB5.out.size _⟩
theorem LFits_any (cs : List Pp.XCls) (v : Value) (a b : Pp.Ty) (w : World) (ht : TabS w) (h : ProgX w v cs) (hl : Pp.Light cs) (hna : a.name.length <= maxLen) (hnb : b.name.length <= maxLen) :
 Calls Tryz.prog 13 #[.agg #[v], .agg #[.int .i64 a.kind, .string ⟨a.name.toArray⟩], .agg #[.int .i64 b.kind, .string ⟨b.name.toArray⟩]] w fun e w' => e = .returned (.bool (Lx.fitsX cs a b)) /\ Below w.heap.size w w' := by
 have HLk := hide (fun tv wx (hb : Below w.heap.size w wx) (hT : RowX wx 2 TyX tv [a, b]) => llook_any cs v [a, b] tv wx (ht.below hb) (h.on hb) hl hT (by show 2 <= 10; omega))
 have HTb := hide (fun wx (hb : Below w.heap.size w wx) => ht.below hb); obtain ⟨pa, pc, rfl, _⟩ := h.1.len; generalize cs.length = n at *
 obtain ⟨ka, na⟩ := a; obtain ⟨kb, nb⟩ := b; clear h ht hl; have b1 := (Below.refl w.heap.size w).alloc (Nat.le_refl _) (.cells #[.slice pa n pc] 24); have b2 := b1.alloc b1.size (.cells #[.int .i64 ka, .string ⟨na.toArray⟩] 26); have b3 := b2.alloc b2.size (.cells #[.int .i64 kb, .string ⟨nb.toArray⟩] 26); have HB1 := hide (b3.alloc b3.size (.cells #[.int .i64 ka, .string ⟨na.toArray⟩, .int .i64 kb, .string ⟨nb.toArray⟩] 26)); have HT0 := hide (tys_two (w := ((w.alloc (.cells #[.slice pa n pc] 24)).alloc (.cells #[.int .i64 ka, .string ⟨na.toArray⟩] 26)).alloc (.cells #[.int .i64 kb, .string ⟨nb.toArray⟩] 26)) (t := ⟨ka, na⟩) (u := ⟨kb, nb⟩) hna hnb); have hsz : (((w.alloc (.cells #[.slice pa n pc] 24)).alloc (.cells #[.int .i64 ka, .string ⟨na.toArray⟩] 26)).alloc (.cells #[.int .i64 kb, .string ⟨nb.toArray⟩] 26)).heap.size = w.heap.size + 1 + 1 + 1 := by simp
 rw [hsz] at HT0; have x1 := (Below.refl (w.heap.size + 1) (w.alloc (.cells #[.slice pa n pc] 24))).alloc (by simp) (.cells #[.int .i64 ka, .string ⟨na.toArray⟩] 26)
 have hA2 : (((w.alloc (.cells #[.slice pa n pc] 24)).alloc (.cells #[.int .i64 ka, .string ⟨na.toArray⟩] 26)).alloc (.cells #[.int .i64 kb, .string ⟨nb.toArray⟩] 26) |>.alloc (.cells #[.int .i64 ka, .string ⟨na.toArray⟩, .int .i64 kb, .string ⟨nb.toArray⟩] 26)).heap[w.heap.size + 1]? = some (.cells #[.int .i64 ka, .string ⟨na.toArray⟩] 26 (0, 0)) := by
  have q := heap_alloc_new (w.alloc (.cells #[.slice pa n pc] 24)) (.cells #[.int .i64 ka, .string ⟨na.toArray⟩] 26); have e1 : (w.alloc (.cells #[.slice pa n pc] 24)).heap.size = w.heap.size + 1 := by simp
  rw [e1] at q; exact (heap_alloc_old _ _ (by simp)).trans ((heap_alloc_old _ _ (by simp)).trans q)
 have hT2 : (((w.alloc (.cells #[.slice pa n pc] 24)).alloc (.cells #[.int .i64 ka, .string ⟨na.toArray⟩] 26)).alloc (.cells #[.int .i64 kb, .string ⟨nb.toArray⟩] 26) |>.alloc (.cells #[.int .i64 ka, .string ⟨na.toArray⟩, .int .i64 kb, .string ⟨nb.toArray⟩] 26)).heap[w.heap.size + 1 + 1]? = some (.cells #[.int .i64 kb, .string ⟨nb.toArray⟩] 26 (0, 0)) := by
  have q := heap_alloc_new ((w.alloc (.cells #[.slice pa n pc] 24)).alloc (.cells #[.int .i64 ka, .string ⟨na.toArray⟩] 26)) (.cells #[.int .i64 kb, .string ⟨nb.toArray⟩] 26); have e1 : ((w.alloc (.cells #[.slice pa n pc] 24)).alloc (.cells #[.int .i64 ka, .string ⟨na.toArray⟩] 26)).heap.size = w.heap.size + 1 + 1 := by simp
  rw [e1] at q; exact (heap_alloc_old _ _ (by simp)).trans q
 have HA2 := hide hA2; have HT2 := hide hT2; clear hsz b1 b2 b3 x1 hA2 hT2; go_enter Tryz.func13, Tryz.ntmps13; go_wp2_with fail; refine (HLk.out _ _ HB1.out HT0.out).mono ?_; generalize (((w.alloc (.cells #[.slice pa n pc] 24)).alloc (.cells #[.int .i64 ka, .string ⟨na.toArray⟩] 26)).alloc (.cells #[.int .i64 kb, .string ⟨nb.toArray⟩] 26)).alloc (.cells #[.int .i64 ka, .string ⟨na.toArray⟩, .int .i64 kb, .string ⟨nb.toArray⟩] 26) = w4 at *
 rintro e w5 ⟨hq, hb5⟩; have HB5 := hide (HB1.out.trans (hb5.mono HB1.out.size)); have HA5 := hide ((hb5.block _ (Ow.lt_of_blk HA2.out)).trans HA2.out); have HT5 := hide ((hb5.block _ (Ow.lt_of_blk HT2.out)).trans HT2.out); clear hb5 HLk HT0 HA2 HT2
 rcases hq with ⟨ho, hv, rfl, hpr⟩ | ⟨ho, rfl⟩
 · have HF := hide ho
   clear ho; obtain ⟨qa, qc, hqe, _⟩ := hpr.1.len; subst hqe; have hA6 : Below w5.heap.size w5 (w5.alloc (.cells #[.slice qa (cs.map Lx.hd).length qc] 24)) := (Below.refl _ _).alloc (Nat.le_refl _) _; have HB6 := hide (HB5.out.trans (hA6.mono HB5.out.size)); have a0 := cell_box ((hA6.block _ (Ow.lt_of_blk HA5.out)).trans HA5.out) 0; have a1 := cell_box ((hA6.block _ (Ow.lt_of_blk HA5.out)).trans HA5.out) 1; have b0 := cell_box ((hA6.block _ (Ow.lt_of_blk HT5.out)).trans HT5.out) 0; have b1 := cell_box ((hA6.block _ (Ow.lt_of_blk HT5.out)).trans HT5.out) 1; have HFi := hide (fits_any (cs.map Lx.hd) _ ka kb na nb _ (HTb.out _ HB6.out) (hpr.on hA6)); clear hA6 hpr; generalize (cs.map Lx.hd).length = n2 at *
   go_wp2_with fail; refine HFi.out.mono ?_; rintro e w7 ⟨rfl, hb7⟩; have HB7 := hide (HB6.out.trans (hb7.mono HB6.out.size)); have HE := hide (Lx.look_err HF.out); rw [Lx.fitsH_hd HE.out]; have HG : Hid (Lx.fitsX cs ⟨ka, na⟩ ⟨kb, nb⟩ = Lx.fitsH cs ka kb na nb) := hide (by unfold Lx.fitsX; rw [HF.out]; rfl)
   clear hb7 a0 a1 b0 b1; go_wp2_with fail; go_ret; exact ⟨by rw [HG.out] <;> rfl, HB7.out⟩
 · have HF : Hid (Lx.fitsX cs ⟨ka, na⟩ ⟨kb, nb⟩ = false) := hide (by unfold Lx.fitsX; rw [ho]; rfl)
   clear ho; go_wp2_with fail; go_ret; exact ⟨by rw [HF.out] <;> rfl, HB5.out.alloc HB5.out.size _⟩
theorem LMeet_any (cs : List Pp.XCls) (v : Value) (a b : Pp.Ty) (w : World) (ht : TabS w) (h : ProgX w v cs) (hl : Pp.Light cs) (hna : a.name.length <= maxLen) (hnb : b.name.length <= maxLen) :
 Calls Tryz.prog 10 #[.agg #[v], .agg #[.int .i64 a.kind, .string ⟨a.name.toArray⟩], .agg #[.int .i64 b.kind, .string ⟨b.name.toArray⟩]] w fun e w' => e = .returned (.tuple #[.agg #[.int .i64 (Lx.meetX cs a b).1.1, .string ⟨(Lx.meetX cs a b).1.2.toArray⟩], .int .i64 (Lx.meetX cs a b).2]) /\ Below w.heap.size w w' := by
 have HLk := hide (fun tv wx (hb : Below w.heap.size w wx) (hT : RowX wx 2 TyX tv [a, b]) => llook_any cs v [a, b] tv wx (ht.below hb) (h.on hb) hl hT (by show 2 <= 10; omega))
 have HTb := hide (fun wx (hb : Below w.heap.size w wx) => ht.below hb); obtain ⟨pa, pc, rfl, _⟩ := h.1.len; generalize cs.length = n at *
 obtain ⟨ka, na⟩ := a; obtain ⟨kb, nb⟩ := b; clear h ht hl; have b1 := (Below.refl w.heap.size w).alloc (Nat.le_refl _) (.cells #[.slice pa n pc] 24); have b2 := b1.alloc b1.size (.cells #[.int .i64 ka, .string ⟨na.toArray⟩] 26); have b3 := b2.alloc b2.size (.cells #[.int .i64 kb, .string ⟨nb.toArray⟩] 26); have b4 := b3.alloc b3.size (.cells #[.int .i64 0, .string ⟨#[]⟩] 26); have HB1 := hide (b4.alloc b4.size (.cells #[.int .i64 ka, .string ⟨na.toArray⟩, .int .i64 kb, .string ⟨nb.toArray⟩] 26)); have HT0 := hide (tys_two (w := (((w.alloc (.cells #[.slice pa n pc] 24)).alloc (.cells #[.int .i64 ka, .string ⟨na.toArray⟩] 26)).alloc (.cells #[.int .i64 kb, .string ⟨nb.toArray⟩] 26)).alloc (.cells #[.int .i64 0, .string ⟨#[]⟩] 26)) (t := ⟨ka, na⟩) (u := ⟨kb, nb⟩) hna hnb); have hsz : ((((w.alloc (.cells #[.slice pa n pc] 24)).alloc (.cells #[.int .i64 ka, .string ⟨na.toArray⟩] 26)).alloc (.cells #[.int .i64 kb, .string ⟨nb.toArray⟩] 26)).alloc (.cells #[.int .i64 0, .string ⟨#[]⟩] 26)).heap.size = w.heap.size + 1 + 1 + 1 + 1 := by simp
 rw [hsz] at HT0
 have hA2 : ((((w.alloc (.cells #[.slice pa n pc] 24)).alloc (.cells #[.int .i64 ka, .string ⟨na.toArray⟩] 26)).alloc (.cells #[.int .i64 kb, .string ⟨nb.toArray⟩] 26)).alloc (.cells #[.int .i64 0, .string ⟨#[]⟩] 26) |>.alloc (.cells #[.int .i64 ka, .string ⟨na.toArray⟩, .int .i64 kb, .string ⟨nb.toArray⟩] 26)).heap[w.heap.size + 1]? = some (.cells #[.int .i64 ka, .string ⟨na.toArray⟩] 26 (0, 0)) := by
  have q := heap_alloc_new (w.alloc (.cells #[.slice pa n pc] 24)) (.cells #[.int .i64 ka, .string ⟨na.toArray⟩] 26); have e1 : (w.alloc (.cells #[.slice pa n pc] 24)).heap.size = w.heap.size + 1 := by simp
  rw [e1] at q; exact (heap_alloc_old _ _ (by simp)).trans ((heap_alloc_old _ _ (by simp)).trans ((heap_alloc_old _ _ (by simp)).trans q))
 have hT2 : ((((w.alloc (.cells #[.slice pa n pc] 24)).alloc (.cells #[.int .i64 ka, .string ⟨na.toArray⟩] 26)).alloc (.cells #[.int .i64 kb, .string ⟨nb.toArray⟩] 26)).alloc (.cells #[.int .i64 0, .string ⟨#[]⟩] 26) |>.alloc (.cells #[.int .i64 ka, .string ⟨na.toArray⟩, .int .i64 kb, .string ⟨nb.toArray⟩] 26)).heap[w.heap.size + 1 + 1]? = some (.cells #[.int .i64 kb, .string ⟨nb.toArray⟩] 26 (0, 0)) := by
  have q := heap_alloc_new ((w.alloc (.cells #[.slice pa n pc] 24)).alloc (.cells #[.int .i64 ka, .string ⟨na.toArray⟩] 26)) (.cells #[.int .i64 kb, .string ⟨nb.toArray⟩] 26); have e1 : ((w.alloc (.cells #[.slice pa n pc] 24)).alloc (.cells #[.int .i64 ka, .string ⟨na.toArray⟩] 26)).heap.size = w.heap.size + 1 + 1 := by simp
  rw [e1] at q; exact (heap_alloc_old _ _ (by simp)).trans ((heap_alloc_old _ _ (by simp)).trans q)
 have hR2 : ((((w.alloc (.cells #[.slice pa n pc] 24)).alloc (.cells #[.int .i64 ka, .string ⟨na.toArray⟩] 26)).alloc (.cells #[.int .i64 kb, .string ⟨nb.toArray⟩] 26)).alloc (.cells #[.int .i64 0, .string ⟨#[]⟩] 26) |>.alloc (.cells #[.int .i64 ka, .string ⟨na.toArray⟩, .int .i64 kb, .string ⟨nb.toArray⟩] 26)).heap[w.heap.size + 3]? = some (.cells #[.int .i64 0, .string ⟨#[]⟩] 26 (0, 0)) := by
  have q := heap_alloc_new (((w.alloc (.cells #[.slice pa n pc] 24)).alloc (.cells #[.int .i64 ka, .string ⟨na.toArray⟩] 26)).alloc (.cells #[.int .i64 kb, .string ⟨nb.toArray⟩] 26)) (.cells #[.int .i64 0, .string ⟨#[]⟩] 26); have e1 : (((w.alloc (.cells #[.slice pa n pc] 24)).alloc (.cells #[.int .i64 ka, .string ⟨na.toArray⟩] 26)).alloc (.cells #[.int .i64 kb, .string ⟨nb.toArray⟩] 26)).heap.size = w.heap.size + 3 := by simp
  rw [e1] at q; exact (heap_alloc_old _ _ (by simp)).trans q
 have HA2 := hide hA2; have HT2 := hide hT2; have HR2 := hide hR2; clear hsz b1 b2 b3 b4 hA2 hT2 hR2; go_enter Tryz.func10, Tryz.ntmps10; go_wp2_with fail; refine (HLk.out _ _ HB1.out HT0.out).mono ?_; generalize ((((w.alloc (.cells #[.slice pa n pc] 24)).alloc (.cells #[.int .i64 ka, .string ⟨na.toArray⟩] 26)).alloc (.cells #[.int .i64 kb, .string ⟨nb.toArray⟩] 26)).alloc (.cells #[.int .i64 0, .string ⟨#[]⟩] 26)).alloc (.cells #[.int .i64 ka, .string ⟨na.toArray⟩, .int .i64 kb, .string ⟨nb.toArray⟩] 26) = w4 at *
 rintro e w5 ⟨hq, hb5⟩; have HB5 := hide (HB1.out.trans (hb5.mono HB1.out.size)); have HA5 := hide ((hb5.block _ (Ow.lt_of_blk HA2.out)).trans HA2.out); have HT5 := hide ((hb5.block _ (Ow.lt_of_blk HT2.out)).trans HT2.out); have HR5 := hide ((hb5.block _ (Ow.lt_of_blk HR2.out)).trans HR2.out); clear hb5 HLk HT0 HA2 HT2 HR2
 rcases hq with ⟨ho, hv, rfl, hpr⟩ | ⟨ho, rfl⟩
 · have HF := hide ho
   obtain ⟨_, hra, _⟩ := Lx.look_two ho; have HK := hide (fun h3 => Lx.known_hd (Lx.right_known hra h3)); clear ho hra; have HE := hide (Lx.look_err HF.out); obtain ⟨qa, qc, hqe, _⟩ := hpr.1.len; subst hqe; have hA6 : Below w5.heap.size w5 (w5.alloc (.cells #[.slice qa (cs.map Lx.hd).length qc] 24)) := (Below.refl _ _).alloc (Nat.le_refl _) _; have HB6 := hide (HB5.out.trans (hA6.mono HB5.out.size)); have a0 := cell_box ((hA6.block _ (Ow.lt_of_blk HA5.out)).trans HA5.out) 0; have a1 := cell_box ((hA6.block _ (Ow.lt_of_blk HA5.out)).trans HA5.out) 1; have b0 := cell_box ((hA6.block _ (Ow.lt_of_blk HT5.out)).trans HT5.out) 0; have b1 := cell_box ((hA6.block _ (Ow.lt_of_blk HT5.out)).trans HT5.out) 1; have HR6 := hide ((hA6.block _ (Ow.lt_of_blk HR5.out)).trans HR5.out); have HFi := hide (meet_any (cs.map Lx.hd) _ ka kb na nb _ (HTb.out _ HB6.out) (hpr.on hA6) (Lx.err_hd HE.out) (fun h _ => HK.out h)); clear hA6 hpr; generalize (cs.map Lx.hd).length = n2 at *
   go_wp2_with fail; refine HFi.out.mono ?_; rintro e w7 ⟨rfl, hb7⟩; have HB7 := hide (HB6.out.trans (hb7.mono HB6.out.size)); have HR7 := hide ((hb7.block _ (Ow.lt_of_blk HR6.out)).trans HR6.out); rw [Lx.meetL_hd HE.out]; have HG : Hid (Lx.meetX cs ⟨ka, na⟩ ⟨kb, nb⟩ = (Lx.meetL cs ka kb na nb, 0)) := hide (by unfold Lx.meetX; rw [if_pos HF.out])
   clear hb7 a0 a1 b0 b1; generalize Lx.meetL cs ka kb na nb = r at *
   obtain ⟨rk, rn⟩ := r; have hP := Ow.blk_put (Ow.blk_put HR7.out 0 (.int .i64 rk)) 1 (.string ⟨rn.toArray⟩); have HBz := hide ((HB7.out.setCell (p := ⟨w.heap.size + 3, 0, none⟩) (by show w.heap.size <= w.heap.size + 3; omega) (.int .i64 rk)).setCell (p := ⟨w.heap.size + 3, 1, none⟩) (by show w.heap.size <= w.heap.size + 3; omega) (.string ⟨rn.toArray⟩))
   have s0 := cell_box HR7.out 0; have s1 := cell_box HR7.out 1; have f0 := Ow.fz_blk HR7.out 0; have f1 := Ow.fz_blk HR7.out 1; have z0 := cell_box hP 0; have z1 := cell_box hP 1; clear hP; go_wp2_with fail; refine bodyPost_ret (v := .tuple #[.agg #[.int .i64 rk, .string ⟨rn.toArray⟩], .int .i64 0]) (by simp [results, Tryz.results10, go_sem, *]) rfl ?_
   exact ⟨by rw [HG.out] <;> rfl, HBz.out⟩
 · have HG : Hid (Lx.meetX cs ⟨ka, na⟩ ⟨kb, nb⟩ = ((0, []), 8)) := hide (by unfold Lx.meetX; rw [if_neg (by rw [ho]; decide)])
   clear ho; have hA6 : Below w5.heap.size w5 (w5.alloc (.cells #[.slice none 0 0] 24)) := (Below.refl _ _).alloc (Nat.le_refl _) _; have HB6 := hide (HB5.out.trans (hA6.mono HB5.out.size)); have HR6 := hide ((hA6.block _ (Ow.lt_of_blk HR5.out)).trans HR5.out); clear hA6; have hP := Ow.blk_put (Ow.blk_put HR6.out 0 (.int .i64 0)) 1 (.string ⟨#[]⟩); have HBz := hide ((HB6.out.setCell (p := ⟨w.heap.size + 3, 0, none⟩) (by show w.heap.size <= w.heap.size + 3; omega) (.int .i64 0)).setCell (p := ⟨w.heap.size + 3, 1, none⟩) (by show w.heap.size <= w.heap.size + 3; omega) (.string ⟨#[]⟩))
   have s0 := cell_box HR6.out 0; have s1 := cell_box HR6.out 1; have f0 := Ow.fz_blk HR6.out 0; have f1 := Ow.fz_blk HR6.out 1; have z0 := cell_box hP 0; have z1 := cell_box hP 1; clear hP; go_wp2_with fail; refine bodyPost_ret (v := .tuple #[.agg #[.int .i64 0, .string ⟨#[]⟩], .int .i64 8]) (by simp [results, Tryz.results10, go_sem, *]) rfl ?_
   exact ⟨by rw [HG.out] <;> rfl, HBz.out⟩
theorem lref_any (nb : ByteArray) (w : World) :
 Calls Tryz.prog 19 #[.string nb] w fun e w' => e = .returned (.agg #[.int .i64 3, .string nb]) /\ Below w.heap.size w w' := by
 have HB0 := hide (fun o => (Below.refl w.heap.size w).alloc (Nat.le_refl _) o); go_enter Tryz.func19, Tryz.ntmps19; go_wp2_with fail; refine bodyPost_ret (v := .agg #[.int .i64 3, .string nb]) (by simp [results, Tryz.results19, go_sem, *]) rfl ?_
 exact ⟨rfl, HB0.out _⟩
namespace Lx
def nullN : Pp.Bs := [78, 117, 108, 108, 69, 114, 114, 111, 114]
def numN : Pp.Bs := [78, 117, 109, 69, 114, 114, 111, 114]
theorem wake_meet : meetX [] ⟨3, nullN⟩ ⟨3, numN⟩ = ((3, [69, 114, 114, 111, 114]), 0) := by kernel_rfl
theorem wake_right : lookOk [] [⟨3, Hr.objN⟩] = true := by kernel_rfl
theorem wake_fits : fitsX [] ⟨6, []⟩ ⟨3, Hr.errN⟩ = true := by kernel_rfl
theorem wake_not : fitsX [] ⟨2, []⟩ ⟨3, Hr.errN⟩ = false := by kernel_rfl
theorem prog_nil (w : World) : ProgX w (.slice none 0 0) [] := ⟨row_nil _ _ _, Nat.zero_le _⟩
theorem light_nil : Pp.Light [] := ⟨Nat.zero_le _, by intro c hc; cases hc⟩
end Lx
theorem LWakes_any (w : World) (ht : TabS w) :
 Calls Tryz.prog 14 #[] w fun e w' => e = .returned (.bool true) /\ Below w.heap.size w w' := by
 have HT := hide (fun wx (hb : Below w.heap.size w wx) => ht.below hb); clear ht; go_enter Tryz.func14, Tryz.ntmps14; go_wp2_with fail; refine (lref_any _ _).mono ?_; rintro e w1 ⟨rfl, hb1⟩; have HB1 := hide hb1; clear hb1; go_wp2_with fail; refine (lref_any _ _).mono ?_; rintro e w2 ⟨rfl, hb2⟩; have HB2 := hide (HB1.out.trans (hb2.mono HB1.out.size)); clear hb2 HB1; go_wp2_with fail; have HM := LMeet_any [] (.slice none 0 0) ⟨3, Lx.nullN⟩ ⟨3, Lx.numN⟩ w2 (HT.out _ HB2.out) (Lx.prog_nil _) Lx.light_nil (by decide) (by decide)
 rw [Lx.wake_meet] at HM; refine HM.mono ?_; clear HM; rintro e w3 ⟨rfl, hb3⟩; have HB3 := hide (HB2.out.trans (hb3.mono HB2.out.size)); clear hb3 HB2; have HX3 := hide (heap_alloc_new w3 (.cells #[.int .i64 3, .string ⟨#[69, 114, 114, 111, 114]⟩] 26)); have HB4 := hide (HB3.out.alloc HB3.out.size (.cells #[.int .i64 3, .string ⟨#[69, 114, 114, 111, 114]⟩] 26))
 have HRi : Hid (∀ wz, Below w.heap.size w wz -> Calls Tryz.prog 12 #[.agg #[.slice none 0 0], .agg #[.int .i64 3, .string ⟨#[79, 98, 106, 101, 99, 116]⟩]] wz fun e w' => e = .returned (.bool true) /\ Below wz.heap.size wz w') := hide (by
  intro wz hb; have h := LRight_any [] (.slice none 0 0) ⟨3, Hr.objN⟩ wz (HT.out _ hb) (Lx.prog_nil _) Lx.light_nil (by decide)
  rw [Lx.wake_right] at h
  exact h)
 have HF1 : Hid (∀ wz, Below w.heap.size w wz -> Calls Tryz.prog 13 #[.agg #[.slice none 0 0], .agg #[.int .i64 6, .string ⟨#[]⟩], .agg #[.int .i64 3, .string ⟨#[69, 114, 114, 111, 114]⟩]] wz fun e w' => e = .returned (.bool true) /\ Below wz.heap.size wz w') := hide (by
  intro wz hb; have h := LFits_any [] (.slice none 0 0) ⟨6, []⟩ ⟨3, Hr.errN⟩ wz (HT.out _ hb) (Lx.prog_nil _) Lx.light_nil (by decide) (by decide)
  rw [Lx.wake_fits] at h
  exact h)
 have HF2 : Hid (∀ wz, Below w.heap.size w wz -> Calls Tryz.prog 13 #[.agg #[.slice none 0 0], .agg #[.int .i64 2, .string ⟨#[]⟩], .agg #[.int .i64 3, .string ⟨#[69, 114, 114, 111, 114]⟩]] wz fun e w' => e = .returned (.bool false) /\ Below wz.heap.size wz w') := hide (by
  intro wz hb; have h := LFits_any [] (.slice none 0 0) ⟨2, []⟩ ⟨3, Hr.errN⟩ wz (HT.out _ hb) (Lx.prog_nil _) Lx.light_nil (by decide) (by decide)
  rw [Lx.wake_not] at h
  exact h)
 have HSz : w3.heap.size < (w3.alloc (.cells #[.int .i64 3, .string ⟨#[69, 114, 114, 111, 114]⟩] 26)).heap.size := by simp
 go_wp2_with fail; generalize w3.alloc (.cells #[.int .i64 3, .string ⟨#[69, 114, 114, 111, 114]⟩] 26) = wA at *
 have HS := hide (fun wz (hb : Below wA.heap.size wA wz) => show wz.cell? ⟨w3.heap.size, 0, none⟩ = some (.int .i64 3) /\ wz.cell? ⟨w3.heap.size, 1, none⟩ = some (.string ⟨#[69, 114, 114, 111, 114]⟩) from
  ⟨cell_box ((hb.block _ HSz).trans HX3.out) 0, cell_box ((hb.block _ HSz).trans HX3.out) 1⟩)
 have HBz : Hid (Below wA.heap.size wA wA.drew) := hide (Below.drew (Below.refl _ _)); clear HT HSz
 go_region_held3 (fun wz => wz.cell? ⟨w3.heap.size, 0, none⟩ = some (.int .i64 3) /\ wz.cell? ⟨w3.heap.size, 1, none⟩ = some (.string ⟨#[69, 114, 114, 111, 114]⟩)) (exact HS.out _ HBz.out)
  (first
    | (go_at_call 19
       with_reducible refine (lref_any _ _).mono ?_
       rintro e w5 ⟨rfl, hb5⟩; have HBz := hide (HBz.out.trans (hb5.mono HBz.out.size))
       clear hb5)
    | (go_at_call 12
       with_reducible refine (HRi.out _ (HB4.out.trans (HBz.out.mono HB4.out.size))).mono ?_
       rintro e w5 ⟨rfl, hb5⟩; have HBz := hide (HBz.out.trans (hb5.mono HBz.out.size))
       clear hb5)
    | (go_at_call 13
       with_reducible refine (HF1.out _ (HB4.out.trans (HBz.out.mono HB4.out.size))).mono ?_
       rintro e w5 ⟨rfl, hb5⟩; have HBz := hide (HBz.out.trans (hb5.mono HBz.out.size))
       clear hb5)
    | (go_at_call 13
       with_reducible refine (HF2.out _ (HB4.out.trans (HBz.out.mono HB4.out.size))).mono ?_
       rintro e w5 ⟨rfl, hb5⟩; have HBz := hide (HBz.out.trans (hb5.mono HBz.out.size))
       clear hb5)
    | fail)
 all_goals
  go_wp2_with fail; go_ret; exact ⟨rfl, HB4.out.trans (HBz.out.mono HB4.out.size)⟩
namespace Lx
open Pp Hr
def rightT (cs : List XCls) (t : Ty) : Bool := rightL (allL cs) t.kind t.name
theorem look_right {cs : List XCls} (he : Ly.layE cs = 0) {t : Ty} : lookOk cs [t] = rightT cs t := by
 unfold lookOk allR rightT; rw [he]; simp
theorem look_two' {cs : List XCls} (he : Ly.layE cs = 0) {a b : Ty} (ha : rightT cs a = true) (hb : rightT cs b = true) : lookOk cs [a, b] = true := by
 unfold rightT at ha hb; unfold lookOk allR; rw [he]; simp [ha, hb]
theorem right_nothing (cs : List XCls) : rightT cs ⟨7, []⟩ = true := rfl
theorem fitsX_yes {cs : List XCls} (he : Ly.layE cs = 0) {a b : Ty} (ha : rightT cs a = true) (hb : rightT cs b = true) : fitsX cs a b = fitsH cs a.kind b.kind a.name b.name := by
 unfold fitsX; rw [look_two' he ha hb]; rfl
theorem fits_self (cs : List XCls) (k : Int) (n : Bs) : fitsH cs k k n n = true := by
 unfold fitsH; exact if_pos (.inl ⟨rfl, rfl⟩)
theorem fits_nothing (cs : List XCls) (k : Int) (n m : Bs) : fitsH cs k 7 n m = true := by
 unfold fitsH; exact if_pos (.inr rfl)
theorem fits_trans {cs : List XCls} (he : errL cs = 0) {ka kb kc : Int} {na nb nc : Bs} (h1 : fitsH cs ka kb na nb = true) (h2 : fitsH cs kb kc nb nc = true) (hc : rightL (allL cs) kc nc = true) : fitsH cs ka kc na nc = true := by
 by_cases c7 : kc = 7
 · rw [c7]; exact fits_nothing _ _ _ _
 by_cases e1 : ka = kb /\ na = nb
 · rw [e1.1, e1.2]; exact h2
 by_cases e2 : kb = kc /\ nb = nc
 · rw [<- e2.1, <- e2.2]; exact h1
 unfold fitsH at h2; rw [if_neg (fun h => h.elim e2 c7)] at h2; by_cases b7 : kb = 7
 · exfalso
   rw [b7] at h2
   split at h2
   · simp [refB] at h2
   · simp at h2
 unfold fitsH at h1; rw [if_neg (fun h => h.elim e1 b7)] at h1; unfold fitsH; by_cases e3 : ka = kc /\ na = nc
 · exact if_pos (.inl e3)
 rw [if_neg (fun h => h.elim e3 c7)]
 have rb : refB kb = true /\ refB kc = true := by
  split at h2
  · simpa using h2
  · simp only [Bool.and_eq_true, beq_iff_eq] at h2
    rw [h2.1, h2.2.1]; exact ⟨rfl, rfl⟩
 have ra : refB ka = true := by
  split at h1
  · simp only [Bool.and_eq_true] at h1; exact h1.1
  · simp only [Bool.and_eq_true, beq_iff_eq] at h1
    rw [h1.1]; rfl
 by_cases g : ka = 6 \/ (kc = 3 /\ nc = objN)
 · rw [if_pos g, ra, rb.2]; rfl
 rw [if_neg g]; have g1 : ¬ ka = 6 := fun h => g (.inl h); have g2 : ¬ (kc = 3 /\ nc = objN) := fun h => g (.inr h); by_cases b6 : kb = 6
 · exfalso
   rw [if_neg (by rintro (h | h); exact g1 h; rw [b6] at h; exact absurd h.1 (by decide))] at h1
   rw [b6] at h1; simp at h1
 rw [if_neg (fun h => h.elim b6 g2)] at h2; simp only [Bool.and_eq_true, beq_iff_eq] at h2; obtain ⟨hb3, hc3, hu2⟩ := h2; by_cases bo : kb = 3 /\ nb = objN
 · exfalso
   rw [bo.2] at hu2; obtain ⟨q, hq⟩ := right_ref hc hc3; have := under_anti ((underB_iff _ _ _).1 hu2) (top_under he (known_place hq)); exact g2 ⟨hc3, this.symm⟩
 rw [if_neg (fun h => h.elim g1 bo)] at h1; simp only [Bool.and_eq_true, beq_iff_eq] at h1; obtain ⟨ha3, _, hu1⟩ := h1; have := (underB_iff _ _ _).2 (under_trans ((underB_iff _ _ _).1 hu1) ((underB_iff _ _ _).1 hu2)); rw [ha3, hc3, this]; rfl
end Lx
namespace Hv
theorem row_at {α : Type} {W : World} {sz : Nat} {P : α -> List Value -> Prop} {a : Option Addr} {n c : Nat} {l : List α} (h : RowX W sz P (.slice a n c) l) {k : Nat} {x : α} (hx : l[k]? = some x) : ∃ b o, a = some ⟨b, o, none⟩ /\ ∃ ys, P x ys /\ ∀ wx, Below W.heap.size W wx -> ∀ (j : Nat) (u : Value), ys[j]? = some u -> wx.cell? ⟨b, o + k * sz + j, none⟩ = some u := by
 obtain ⟨a', c', e, hc, h⟩ := h; injection e with e1 e2 e3; subst e1
 rcases h with rfl | ⟨b, o, rfl, hlt, hr⟩
 · simp at hx
 · obtain ⟨ys, h1, h2⟩ := hr k x hx
   exact ⟨b, o, rfl, ys, h1, fun wx hb j u hj => (hb.cell (by exact hlt)).trans (h2 j u hj)⟩
def Is (cs : List Pp.XCls) (e : Ending) : Prop := ∃ b, e = .returned (.bool b) /\ (b = false -> Pp.Light cs)
theorem yes (cs : List Pp.XCls) : Is cs (.returned (.bool true)) := ⟨true, rfl, fun h => by cases h⟩
theorem no {cs : List Pp.XCls} (h : Pp.Light cs) : Is cs (.returned (.bool false)) := ⟨false, rfl, fun _ => h⟩
end Hv
theorem Heavy_any (cs : List Pp.XCls) (v : Value) (w : World) (h : ProgX w v cs) :
 Calls Tryz.prog 9 #[.agg #[v]] w fun e w' => Hv.Is cs e /\ Below w.heap.size w w' := by
 obtain ⟨pa, pc, rfl, _⟩ := h.1.len; obtain ⟨len, hlen⟩ : ∃ len, len = cs.length := ⟨_, rfl⟩; have HL := hide hlen; have HX := hide h.1; rw [<- hlen] at HX ⊢; clear h hlen; by_cases h14 : 14 < len
 · have h14' : (14 : Int) < (len : Int) := by omega
   go_enter Tryz.func9, Tryz.ntmps9; go_wp2_with fail; go_ret; exact ⟨Hv.yes _, (Below.refl _ _).alloc (Nat.le_refl _) _⟩
 have h14' : ¬ (14 : Int) < (len : Int) := by omega
 have HB0 : Hid (Below w.heap.size w (w.alloc (.cells #[.slice pa len pc] 24))) := hide ((Below.refl _ _).alloc (Nat.le_refl _) _); have hp0 : (w.alloc (.cells #[.slice pa len pc] 24)).cell? ⟨w.heap.size, 0, none⟩ = some (.slice pa len pc) := cell_box (heap_alloc_new w _) 0; have hs0 : w.heap.size < (w.alloc (.cells #[.slice pa len pc] 24)).heap.size := by simp
 go_enter Tryz.func9, Tryz.ntmps9; go_wp2_with fail; generalize w.alloc (.cells #[.slice pa len pc] 24) = w0 at *
 generalize w.heap.size = bp at hp0 hs0 ⊢
 go_loopw [3] (fun i wr => ∃ k : Nat, k <= len /\ i = .int .i64 k /\ Below w0.heap.size w0 wr /\ Hid (∀ y ∈ cs.take k, Pp.LtC y)) (fun i _ => len - (intOf i).toNat)
 case atStart => exact ⟨0, Nat.zero_le _, rfl, Below.refl _ _, hide (by simp)⟩
 case round =>
  obtain ⟨kA, hkA, rfl, hbA, HA⟩ := hrel; have pA := (hbA.cell (p := ⟨bp, 0, none⟩) (by exact hs0)).trans hp0
  have HBA := hide (HB0.out.trans (hbA.mono HB0.out.size)); have hsA := hbA.size; by_cases hltA : kA < len
  · obtain ⟨x, hx⟩ : ∃ x, cs[kA]? = some x := ⟨cs[kA]'(by rw [<- HL.out]; exact hltA), List.getElem?_eq_getElem _⟩
    obtain ⟨g, o, rfl, ys, hy, hcell⟩ := Hv.row_at HX.out hx; have HX2 := hide hx; have hG := hide (hcell wr HBA.out); obtain ⟨vi, vf, vm, rfl, x1, x2, x3, x4⟩ := hy; obtain ⟨ia, ic, rfl, _⟩ := x1.len; obtain ⟨fa, fc, rfl, _⟩ := x2.len; obtain ⟨ma, mc, rfl, _⟩ := x3.len; have r0 := hG.out 0 _ rfl; have r1 := hG.out 1 _ rfl; have r2 := hG.out 2 _ rfl; have r3 := hG.out 3 _ rfl; have r4 := hG.out 4 _ rfl; have r5 := hG.out 5 _ rfl; rw [Nat.add_zero] at r0; obtain ⟨n1, hn1⟩ : ∃ n, n = x.ifaces.length := ⟨_, rfl⟩; obtain ⟨n2, hn2⟩ : ∃ n, n = x.fields.length := ⟨_, rfl⟩; obtain ⟨n3, hn3⟩ : ∃ n, n = x.methods.length := ⟨_, rfl⟩; have HN1 := hide hn1; have HN2 := hide hn2; have HN3 := hide hn3; rw [<- hn1] at r3 x1; rw [<- hn2] at r4 x2; rw [<- hn3] at r5 x3; have HI := hide x1; have HF := hide x2; have HM := hide x3; obtain ⟨S0, hS0⟩ : ∃ S : ByteArray, S = ⟨x.name.toArray⟩ := ⟨_, rfl⟩; obtain ⟨S2, hS2⟩ : ∃ S : ByteArray, S = ⟨x.super.toArray⟩ := ⟨_, rfl⟩; rw [<- hS0] at r0; rw [<- hS2] at r2; have HS0 : Hid (x.name.length = S0.size) := hide (by rw [hS0]; simp [ByteArray.size])
    have HS2 : Hid (x.super.length = S2.size) := hide (by rw [hS2]; simp [ByteArray.size])
    generalize x.iface = bI at r1; clear hcell x1 x2 x3 x4 hG hn1 hn2 hn3 hS0 hS2 hx HX; have hltA' : (kA : Int) < (len : Int) := by omega
    have HBc : Hid (∀ o, Below w.heap.size w (wr.alloc o)) := hide fun o => HBA.out.alloc HBA.out.size _; by_cases e1 : 14 < n2
    · have e1' : (14 : Int) < (n2 : Int) := by omega
      go_wp2_with fail; go_ret; exact ⟨Hv.yes _, HBc.out _⟩
    have e1' : ¬ (14 : Int) < (n2 : Int) := by omega
    by_cases e2 : 14 < n3
    · have e2' : (14 : Int) < (n3 : Int) := by omega
      go_wp2_with fail; go_ret; exact ⟨Hv.yes _, HBc.out _⟩
    have e2' : ¬ (14 : Int) < (n3 : Int) := by omega
    by_cases e3 : 10 < n1
    · have e3' : (10 : Int) < (n1 : Int) := by omega
      go_wp2_with fail; go_ret; exact ⟨Hv.yes _, HBc.out _⟩
    have e3' : ¬ (10 : Int) < (n1 : Int) := by omega
    by_cases e4 : 60 < S0.size
    · have e4' : (60 : Int) < (S0.size : Int) := by omega
      go_wp2_with fail; go_ret; exact ⟨Hv.yes _, HBc.out _⟩
    have e4' : ¬ (60 : Int) < (S0.size : Int) := by omega
    by_cases e5 : 60 < S2.size
    · have e5' : (60 : Int) < (S2.size : Int) := by omega
      go_wp2_with fail; go_ret; exact ⟨Hv.yes _, HBc.out _⟩
    have e5' : ¬ (60 : Int) < (S2.size : Int) := by omega
    have hc : ∀ j, (wr.alloc (.cells #[.string S0, .bool bI, .string S2, .slice ia n1 ic, .slice fa n2 fc, .slice ma n3 mc] 42)).cell? ⟨wr.heap.size, j, none⟩ = #[Value.string S0, .bool bI, .string S2, .slice ia n1 ic, .slice fa n2 fc, .slice ma n3 mc][j]? := fun j => cell_box (heap_alloc_new wr _) j; have c3 := hc 3; have c4 := hc 4; have c5 := hc 5; have pB : (wr.alloc (.cells #[.string S0, .bool bI, .string S2, .slice ia n1 ic, .slice fa n2 fc, .slice ma n3 mc] 42)).cell? ⟨bp, 0, none⟩ = some (.slice (some ⟨g, o, none⟩) len pc) := ((Below.alloc (Below.refl wr.heap.size wr) (Nat.le_refl _) _).cell (p := ⟨bp, 0, none⟩) (by show bp < wr.heap.size; omega)).trans pA
    have HBC := hide (HBc.out (.cells #[.string S0, .bool bI, .string S2, .slice ia n1 ic, .slice fa n2 fc, .slice ma n3 mc] 42)); have H0C := hide (hbA.alloc hbA.size (.cells #[.string S0, .bool bI, .string S2, .slice ia n1 ic, .slice fa n2 fc, .slice ma n3 mc] 42)); have hsC : wr.heap.size < (wr.alloc (.cells #[.string S0, .bool bI, .string S2, .slice ia n1 ic, .slice fa n2 fc, .slice ma n3 mc] 42)).heap.size := by simp
    go_wp2_with fail; clear hc HBc pA r0 r1 r2 r3 r4 r5 HBA; generalize wr.alloc (.cells #[.string S0, .bool bI, .string S2, .slice ia n1 ic, .slice fa n2 fc, .slice ma n3 mc] 42) = wc at *
    clear hbA; generalize wr.heap.size = bc at hsC c3 c4 c5 hsA ⊢
    go_loopw [5] (fun i wr => ∃ k : Nat, k <= n2 /\ i = .int .i64 k /\ Below wc.heap.size wc wr /\ Hid (∀ y ∈ x.fields.take k, Pp.LtF y)) (fun i _ => n2 - (intOf i).toNat)
    case atStart => exact ⟨0, Nat.zero_le _, rfl, Below.refl _ _, hide (by simp)⟩
    case round =>
     obtain ⟨kB, hkB, rfl, hbB, HAB⟩ := hrel; have qB := (hbB.cell (p := ⟨bc, 4, none⟩) (by exact hsC)).trans c4
     have HBB := hide (HBC.out.trans (hbB.mono HBC.out.size)); by_cases hltB : kB < n2
     · obtain ⟨y, hy⟩ : ∃ y, x.fields[kB]? = some y := ⟨x.fields[kB]'(by rw [<- HN2.out]; exact hltB), List.getElem?_eq_getElem _⟩
       obtain ⟨gB, oB, rfl, ys, hys, hcell⟩ := Hv.row_at HF.out hy; have HY := hide hy; have hG := hide (hcell wr HBB.out); obtain rfl : ys = _ := hys.1; clear hcell hys hy; have z0 := hG.out 0 _ rfl; rw [Nat.add_zero] at z0; obtain ⟨T0, hT0⟩ : ∃ S : ByteArray, S = ⟨y.name.toArray⟩ := ⟨_, rfl⟩; rw [<- hT0] at z0; have HT0 : Hid (y.name.length = T0.size) := hide (by rw [hT0]; simp [ByteArray.size])
       clear hT0; have z2 := hG.out 2 _ rfl; obtain ⟨T2, hT2⟩ : ∃ S : ByteArray, S = ⟨y.ty.name.toArray⟩ := ⟨_, rfl⟩; rw [<- hT2] at z2; have HT2 : Hid (y.ty.name.length = T2.size) := hide (by rw [hT2]; simp [ByteArray.size])
       clear hT2; clear hG; have hltB' : (kB : Int) < (n2 : Int) := by omega
       by_cases t0 : 60 < T0.size
       · have t0' : (60 : Int) < (T0.size : Int) := by omega
         go_wp2_with fail; go_ret; exact ⟨Hv.yes _, HBB.out⟩
       have t0' : ¬ (60 : Int) < (T0.size : Int) := by omega
       by_cases t2 : 60 < T2.size
       · have t2' : (60 : Int) < (T2.size : Int) := by omega
         go_wp2_with fail; go_ret; exact ⟨Hv.yes _, HBB.out⟩
       have t2' : ¬ (60 : Int) < (T2.size : Int) := by omega
       have HR := hide (Pp.all_take HAB.out HY.out ⟨by rw [HT0.out]; omega, by rw [HT2.out]; omega⟩)
       clear HY; go_wp2_with fail
       go_roundw
       case rel => exact ⟨kB + 1, by omega, by go_num, hbB, HR⟩
       case measure => simp [intOf]; omega
     · have HEB := hide (Pp.all_end HAB.out (by rw [<- HN2.out]; omega))
       clear HAB; have cB3 := (hbB.cell (p := ⟨bc, 3, none⟩) (by exact hsC)).trans c3
       have cB5 := (hbB.cell (p := ⟨bc, 5, none⟩) (by exact hsC)).trans c5
       have pB2 := (hbB.cell (p := ⟨bp, 0, none⟩) (by show bp < wc.heap.size; omega)).trans pB
       have H0B := hide (H0C.out.trans (hbB.mono H0C.out.size)); have hsB := Nat.lt_of_lt_of_le hsC hbB.size; clear c3 c4 c5 pB H0C HF HBC; obtain ⟨wB, rfl⟩ : ∃ wB : World, wB = wr := ⟨_, rfl⟩; go_wp2_with fail; clear qB hkB hltB hbB
       go_loopw [6] (fun i wr => ∃ k : Nat, k <= n1 /\ i = .int .i64 k /\ Below wB.heap.size wB wr /\ Hid (∀ y ∈ x.ifaces.take k, Pp.LtS y)) (fun i _ => n1 - (intOf i).toNat)
       case atStart => exact ⟨0, Nat.zero_le _, rfl, Below.refl _ _, hide (by simp)⟩
       case round =>
        obtain ⟨kC, hkC, rfl, hbC, HAC⟩ := hrel; have qC := (hbC.cell (p := ⟨bc, 3, none⟩) (by exact hsB)).trans cB3
        have HBC := hide (HBB.out.trans (hbC.mono HBB.out.size)); by_cases hltC : kC < n1
        · obtain ⟨y, hy⟩ : ∃ y, x.ifaces[kC]? = some y := ⟨x.ifaces[kC]'(by rw [<- HN1.out]; exact hltC), List.getElem?_eq_getElem _⟩
          obtain ⟨gC, oC, rfl, ys, hys, hcell⟩ := Hv.row_at HI.out hy; have HY := hide hy; have hG := hide (hcell wr HBC.out); obtain rfl : ys = _ := hys.1; clear hcell hys hy; have z0 := hG.out 0 _ rfl; rw [Nat.add_zero] at z0; obtain ⟨T0, hT0⟩ : ∃ S : ByteArray, S = ⟨y.toArray⟩ := ⟨_, rfl⟩; rw [<- hT0] at z0; have HT0 : Hid (y.length = T0.size) := hide (by rw [hT0]; simp [ByteArray.size])
          clear hT0; rw [Nat.mul_one] at z0; clear hG; have hltC' : (kC : Int) < (n1 : Int) := by omega
          by_cases t0 : 60 < T0.size
          · have t0' : (60 : Int) < (T0.size : Int) := by omega
            go_wp2_with fail; go_ret; exact ⟨Hv.yes _, HBC.out⟩
          have t0' : ¬ (60 : Int) < (T0.size : Int) := by omega
          have HR := hide (Pp.all_take HAC.out HY.out (show Pp.LtS y from by unfold Pp.LtS; rw [HT0.out]; omega))
          clear HY; go_wp2_with fail
          go_roundw
          case rel => exact ⟨kC + 1, by omega, by go_num, hbC, HR⟩
          case measure => simp [intOf]; omega
        · have HEC := hide (Pp.all_end HAC.out (by rw [<- HN1.out]; omega))
          clear HAC; have cC5 := (hbC.cell (p := ⟨bc, 5, none⟩) (by exact hsB)).trans cB5
          have pC2 := (hbC.cell (p := ⟨bp, 0, none⟩) (by show bp < wB.heap.size; omega)).trans pB2
          have H0Cc := hide (H0B.out.trans (hbC.mono H0B.out.size)); have hsCc := Nat.lt_of_lt_of_le hsB hbC.size; clear cB3 cB5 pB2 H0B HI HBB; obtain ⟨wC, rfl⟩ : ∃ wC : World, wC = wr := ⟨_, rfl⟩; go_wp2_with fail; clear qC hkC hltC hbC
          go_loopw [7] (fun i wr => ∃ k : Nat, k <= n3 /\ i = .int .i64 k /\ Below wC.heap.size wC wr /\ Hid (∀ y ∈ x.methods.take k, Pp.LtM y)) (fun i _ => n3 - (intOf i).toNat)
          case atStart => exact ⟨0, Nat.zero_le _, rfl, Below.refl _ _, hide (by simp)⟩
          case round =>
           obtain ⟨kD, hkD, rfl, hbD, HAD⟩ := hrel; have qD := (hbD.cell (p := ⟨bc, 5, none⟩) (by exact hsCc)).trans cC5
           have HBD := hide (HBC.out.trans (hbD.mono HBC.out.size)); by_cases hltD : kD < n3
           · obtain ⟨m, hm⟩ : ∃ m, x.methods[kD]? = some m := ⟨x.methods[kD]'(by rw [<- HN3.out]; exact hltD), List.getElem?_eq_getElem _⟩
             obtain ⟨gD, oD, rfl, ys, hys, hcell⟩ := Hv.row_at HM.out hm; have HMM := hide hm; have hG := hide (hcell wr HBD.out); obtain ⟨vp, vc, vk, rfl, y1, y2, y3, y4⟩ := hys; obtain ⟨da, dc, rfl, _⟩ := y1.len; obtain ⟨ea, ec, rfl, _⟩ := y2.len; obtain ⟨fa', fc', rfl, _⟩ := y3.len; have r0 := hG.out 0 _ rfl; have r1 := hG.out 1 _ rfl; have r2 := hG.out 2 _ rfl; have r3 := hG.out 3 _ rfl; have r4 := hG.out 4 _ rfl; have r5 := hG.out 5 _ rfl; have r6 := hG.out 6 _ rfl; have r7 := hG.out 7 _ rfl; have r8 := hG.out 8 _ rfl; rw [Nat.add_zero] at r0; obtain ⟨m1, hm1⟩ : ∃ n, n = m.params.length := ⟨_, rfl⟩; obtain ⟨m2, hm2⟩ : ∃ n, n = m.code.length := ⟨_, rfl⟩; obtain ⟨m3, hm3⟩ : ∃ n, n = m.catches.length := ⟨_, rfl⟩; have HM1 := hide hm1; have HM2 := hide hm2; have HM3 := hide hm3; rw [<- hm1] at r3 y1; rw [<- hm2] at r7 y2; rw [<- hm3] at r8 y3; have HY1 := hide y1; have HY2 := hide y2; have HY3 := hide y3; obtain ⟨U0, hU0⟩ : ∃ S : ByteArray, S = ⟨m.name.toArray⟩ := ⟨_, rfl⟩; obtain ⟨U5, hU5⟩ : ∃ S : ByteArray, S = ⟨m.ret.name.toArray⟩ := ⟨_, rfl⟩; rw [<- hU0] at r0; rw [<- hU5] at r5; have HU0 : Hid (m.name.length = U0.size) := hide (by rw [hU0]; simp [ByteArray.size])
             have HU5 : Hid (m.ret.name.length = U5.size) := hide (by rw [hU5]; simp [ByteArray.size])
             generalize m.stat = b1 at r1; generalize m.abst = b2 at r2; generalize m.ret.kind = i4 at r4; generalize m.locals = i6 at r6; clear hcell y1 y2 y3 y4 hG hm1 hm2 hm3 hU0 hU5 hm HM; have hltD' : (kD : Int) < (n3 : Int) := by omega
             have HBd : Hid (∀ o, Below w.heap.size w (wr.alloc o)) := hide fun o => HBD.out.alloc HBD.out.size _; by_cases d1 : 60 < U0.size
             · have d1' : (60 : Int) < (U0.size : Int) := by omega
               go_wp2_with fail; go_ret; exact ⟨Hv.yes _, HBd.out _⟩
             have d1' : ¬ (60 : Int) < (U0.size : Int) := by omega
             by_cases d2 : 10 < m1
             · have d2' : (10 : Int) < (m1 : Int) := by omega
               go_wp2_with fail; go_ret; exact ⟨Hv.yes _, HBd.out _⟩
             have d2' : ¬ (10 : Int) < (m1 : Int) := by omega
             by_cases d3 : 60 < m2
             · have d3' : (60 : Int) < (m2 : Int) := by omega
               go_wp2_with fail; go_ret; exact ⟨Hv.yes _, HBd.out _⟩
             have d3' : ¬ (60 : Int) < (m2 : Int) := by omega
             by_cases d4 : 10 < m3
             · have d4' : (10 : Int) < (m3 : Int) := by omega
               go_wp2_with fail; go_ret; exact ⟨Hv.yes _, HBd.out _⟩
             have d4' : ¬ (10 : Int) < (m3 : Int) := by omega
             by_cases d5 : 60 < U5.size
             · have d5' : (60 : Int) < (U5.size : Int) := by omega
               go_wp2_with fail; go_ret; exact ⟨Hv.yes _, HBd.out _⟩
             have d5' : ¬ (60 : Int) < (U5.size : Int) := by omega
             have hc : ∀ j, (wr.alloc (.cells #[.string U0, .bool b1, .bool b2, .slice da m1 dc, .int .i64 i4, .string U5, .int .i64 i6, .slice ea m2 ec, .slice fa' m3 fc'] 57)).cell? ⟨wr.heap.size, j, none⟩ = #[Value.string U0, .bool b1, .bool b2, .slice da m1 dc, .int .i64 i4, .string U5, .int .i64 i6, .slice ea m2 ec, .slice fa' m3 fc'][j]? := fun j => cell_box (heap_alloc_new wr _) j; have j3 := hc 3; have j7 := hc 7; have j8 := hc 8; have pD := ((Below.alloc hbD hbD.size (.cells #[.string U0, .bool b1, .bool b2, .slice da m1 dc, .int .i64 i4, .string U5, .int .i64 i6, .slice ea m2 ec, .slice fa' m3 fc'] 57)).cell (p := ⟨bp, 0, none⟩) (by show bp < wC.heap.size; omega)).trans pC2
             have cD5 := ((Below.alloc hbD hbD.size (.cells #[.string U0, .bool b1, .bool b2, .slice da m1 dc, .int .i64 i4, .string U5, .int .i64 i6, .slice ea m2 ec, .slice fa' m3 fc'] 57)).cell (p := ⟨bc, 5, none⟩) (by exact hsCc)).trans cC5
             have HDD := hide (HBd.out (.cells #[.string U0, .bool b1, .bool b2, .slice da m1 dc, .int .i64 i4, .string U5, .int .i64 i6, .slice ea m2 ec, .slice fa' m3 fc'] 57)); have HCD := hide (hbD.alloc hbD.size (.cells #[.string U0, .bool b1, .bool b2, .slice da m1 dc, .int .i64 i4, .string U5, .int .i64 i6, .slice ea m2 ec, .slice fa' m3 fc'] 57)); have hsD : wr.heap.size < (wr.alloc (.cells #[.string U0, .bool b1, .bool b2, .slice da m1 dc, .int .i64 i4, .string U5, .int .i64 i6, .slice ea m2 ec, .slice fa' m3 fc'] 57)).heap.size := by simp
             go_wp2_with fail; clear hc HBd r0 r1 r2 r3 r4 r5 r6 r7 r8 qD; generalize wr.alloc (.cells #[.string U0, .bool b1, .bool b2, .slice da m1 dc, .int .i64 i4, .string U5, .int .i64 i6, .slice ea m2 ec, .slice fa' m3 fc'] 57) = wm at *
             clear HBD; generalize wr.heap.size = bm at hsD j3 j7 j8 ⊢
             go_loopw [9] (fun i wr => ∃ k : Nat, k <= m2 /\ i = .int .i64 k /\ Below wm.heap.size wm wr /\ Hid (∀ y ∈ m.code.take k, Pp.LtI y)) (fun i _ => m2 - (intOf i).toNat)
             case atStart => exact ⟨0, Nat.zero_le _, rfl, Below.refl _ _, hide (by simp)⟩
             case round =>
              obtain ⟨kE, hkE, rfl, hbE, HAE⟩ := hrel; have qE := (hbE.cell (p := ⟨bm, 7, none⟩) (by exact hsD)).trans j7
              have HBE := hide (HDD.out.trans (hbE.mono HDD.out.size)); by_cases hltE : kE < m2
              · obtain ⟨y, hy⟩ : ∃ y, m.code[kE]? = some y := ⟨m.code[kE]'(by rw [<- HM2.out]; exact hltE), List.getElem?_eq_getElem _⟩
                obtain ⟨gE, oE, rfl, ys, hys, hcell⟩ := Hv.row_at HY2.out hy; have HY := hide hy; have hG := hide (hcell wr HBE.out); obtain rfl : ys = _ := hys.1; clear hcell hys hy; have z2 := hG.out 2 _ rfl; obtain ⟨T2, hT2⟩ : ∃ S : ByteArray, S = ⟨y.a.toArray⟩ := ⟨_, rfl⟩; rw [<- hT2] at z2; have HT2 : Hid (y.a.length = T2.size) := hide (by rw [hT2]; simp [ByteArray.size])
                clear hT2; have z3 := hG.out 3 _ rfl; obtain ⟨T3, hT3⟩ : ∃ S : ByteArray, S = ⟨y.b.toArray⟩ := ⟨_, rfl⟩; rw [<- hT3] at z3; have HT3 : Hid (y.b.length = T3.size) := hide (by rw [hT3]; simp [ByteArray.size])
                clear hT3; clear hG; have hltE' : (kE : Int) < (m2 : Int) := by omega
                by_cases t2 : 60 < T2.size
                · have t2' : (60 : Int) < (T2.size : Int) := by omega
                  go_wp2_with fail; go_ret; exact ⟨Hv.yes _, HBE.out⟩
                have t2' : ¬ (60 : Int) < (T2.size : Int) := by omega
                by_cases t3 : 60 < T3.size
                · have t3' : (60 : Int) < (T3.size : Int) := by omega
                  go_wp2_with fail; go_ret; exact ⟨Hv.yes _, HBE.out⟩
                have t3' : ¬ (60 : Int) < (T3.size : Int) := by omega
                have HR := hide (Pp.all_take HAE.out HY.out ⟨by rw [HT2.out]; omega, by rw [HT3.out]; omega⟩)
                clear HY; go_wp2_with fail
                go_roundw
                case rel => exact ⟨kE + 1, by omega, by go_num, hbE, HR⟩
                case measure => simp [intOf]; omega
              · have HEE := hide (Pp.all_end HAE.out (by rw [<- HM2.out]; omega))
                clear HAE; have jE3 := (hbE.cell (p := ⟨bm, 3, none⟩) (by exact hsD)).trans j3
                have jE8 := (hbE.cell (p := ⟨bm, 8, none⟩) (by exact hsD)).trans j8
                have HCE := hide (HCD.out.trans (hbE.mono HCD.out.size)); have hsE := Nat.lt_of_lt_of_le hsD hbE.size; clear j3 j7 j8 HCD HY2 HDD pD cD5; obtain ⟨wE, rfl⟩ : ∃ wE : World, wE = wr := ⟨_, rfl⟩; go_wp2_with fail; clear qE hkE hltE hbE
                go_loopw [10] (fun i wr => ∃ k : Nat, k <= m1 /\ i = .int .i64 k /\ Below wE.heap.size wE wr /\ Hid (∀ y ∈ m.params.take k, Pp.LtT y)) (fun i _ => m1 - (intOf i).toNat)
                case atStart => exact ⟨0, Nat.zero_le _, rfl, Below.refl _ _, hide (by simp)⟩
                case round =>
                 obtain ⟨kF, hkF, rfl, hbF, HAF⟩ := hrel; have qF := (hbF.cell (p := ⟨bm, 3, none⟩) (by exact hsE)).trans jE3
                 have HBF := hide (HBE.out.trans (hbF.mono HBE.out.size)); by_cases hltF : kF < m1
                 · obtain ⟨y, hy⟩ : ∃ y, m.params[kF]? = some y := ⟨m.params[kF]'(by rw [<- HM1.out]; exact hltF), List.getElem?_eq_getElem _⟩
                   obtain ⟨gF, oF, rfl, ys, hys, hcell⟩ := Hv.row_at HY1.out hy; have HY := hide hy; have hG := hide (hcell wr HBF.out); obtain rfl : ys = _ := hys.1; clear hcell hys hy; have z1 := hG.out 1 _ rfl; obtain ⟨T1, hT1⟩ : ∃ S : ByteArray, S = ⟨y.name.toArray⟩ := ⟨_, rfl⟩; rw [<- hT1] at z1; have HT1 : Hid (y.name.length = T1.size) := hide (by rw [hT1]; simp [ByteArray.size])
                   clear hT1; clear hG; have hltF' : (kF : Int) < (m1 : Int) := by omega
                   by_cases t1 : 60 < T1.size
                   · have t1' : (60 : Int) < (T1.size : Int) := by omega
                     go_wp2_with fail; go_ret; exact ⟨Hv.yes _, HBF.out⟩
                   have t1' : ¬ (60 : Int) < (T1.size : Int) := by omega
                   have HR := hide (Pp.all_take HAF.out HY.out (show Pp.LtT y from by unfold Pp.LtT; rw [HT1.out]; omega))
                   clear HY; go_wp2_with fail
                   go_roundw
                   case rel => exact ⟨kF + 1, by omega, by go_num, hbF, HR⟩
                   case measure => simp [intOf]; omega
                 · have HEF := hide (Pp.all_end HAF.out (by rw [<- HM1.out]; omega))
                   clear HAF; have jF8 := (hbF.cell (p := ⟨bm, 8, none⟩) (by exact hsE)).trans jE8
                   have HCF := hide (HCE.out.trans (hbF.mono HCE.out.size)); have hsF := Nat.lt_of_lt_of_le hsE hbF.size; clear jE3 jE8 HCE HY1 HBE; obtain ⟨wF, rfl⟩ : ∃ wF : World, wF = wr := ⟨_, rfl⟩; go_wp2_with fail; clear qF hkF hltF hbF
                   go_loopw [11] (fun i wr => ∃ k : Nat, k <= m3 /\ i = .int .i64 k /\ Below wF.heap.size wF wr /\ Hid (∀ y ∈ m.catches.take k, Pp.LtK y)) (fun i _ => m3 - (intOf i).toNat)
                   case atStart => exact ⟨0, Nat.zero_le _, rfl, Below.refl _ _, hide (by simp)⟩
                   case round =>
                    obtain ⟨kG, hkG, rfl, hbG, HAG⟩ := hrel; have qG := (hbG.cell (p := ⟨bm, 8, none⟩) (by exact hsF)).trans jF8
                    have HBG := hide (HBF.out.trans (hbG.mono HBF.out.size)); by_cases hltG : kG < m3
                    · obtain ⟨y, hy⟩ : ∃ y, m.catches[kG]? = some y := ⟨m.catches[kG]'(by rw [<- HM3.out]; exact hltG), List.getElem?_eq_getElem _⟩
                      obtain ⟨gG, oG, rfl, ys, hys, hcell⟩ := Hv.row_at HY3.out hy; have HY := hide hy; have hG := hide (hcell wr HBG.out); obtain rfl : ys = _ := hys.1; clear hcell hys hy; have z0 := hG.out 0 _ rfl; rw [Nat.add_zero] at z0; obtain ⟨T0, hT0⟩ : ∃ S : ByteArray, S = ⟨y.name.toArray⟩ := ⟨_, rfl⟩; rw [<- hT0] at z0; have HT0 : Hid (y.name.length = T0.size) := hide (by rw [hT0]; simp [ByteArray.size])
                      clear hT0; clear hG; have hltG' : (kG : Int) < (m3 : Int) := by omega
                      by_cases t0 : 60 < T0.size
                      · have t0' : (60 : Int) < (T0.size : Int) := by omega
                        go_wp2_with fail; go_ret; exact ⟨Hv.yes _, HBG.out⟩
                      have t0' : ¬ (60 : Int) < (T0.size : Int) := by omega
                      have HR := hide (Pp.all_take HAG.out HY.out (show Pp.LtK y from by unfold Pp.LtK; rw [HT0.out]; omega))
                      clear HY; go_wp2_with fail
                      go_roundw
                      case rel => exact ⟨kG + 1, by omega, by go_num, hbG, HR⟩
                      case measure => simp [intOf]; omega
                    · have HEG := hide (Pp.all_end HAG.out (by rw [<- HM3.out]; omega))
                      clear HAG; have HCG := hide (HCF.out.trans (hbG.mono HCF.out.size)); have HOK : Hid (∀ y ∈ x.methods.take (kD + 1), Pp.LtM y) := hide (Pp.all_take HAD.out HMM.out ⟨⟨by rw [HU0.out]; omega, by rw [<- HM1.out]; omega, by rw [<- HM2.out]; omega, by rw [<- HM3.out]; omega, by rw [HU5.out]; omega⟩, HEE.out, HEF.out, HEG.out⟩)
                      go_wp2_with fail
                      go_roundw
                      case rel => exact ⟨kD + 1, by omega, by go_num, HCG.out, HOK⟩
                      case measure => simp [intOf]; omega
           · have HED := hide (Pp.all_end HAD.out (by rw [<- HN3.out]; omega))
             have H0D := hide (H0Cc.out.trans (hbD.mono H0Cc.out.size)); have HOK : Hid (∀ y ∈ cs.take (kA + 1), Pp.LtC y) := hide (Pp.all_take HA.out HX2.out ⟨⟨by rw [<- HN2.out]; omega, by rw [<- HN3.out]; omega, by rw [<- HN1.out]; omega, by rw [HS0.out]; omega, by rw [HS2.out]; omega⟩, HEB.out, HEC.out, HED.out⟩)
             go_wp2_with fail
             go_roundw
             case rel => exact ⟨kA + 1, by omega, by go_num, H0D.out, HOK⟩
             case measure => simp [intOf]; omega
  · have HEA := hide (Pp.all_end HA.out (by rw [<- HL.out]; omega))
    go_wp2_with fail; go_ret; exact ⟨Hv.no ⟨by rw [<- HL.out]; omega, HEA.out⟩, HBA.out⟩
open Go.ChangeShapes Go.WideShapes Go.ChangeAt Go.RowKit
theorem own : ownKnob Tryz.prog.godebug = none := by kernel_rfl
theorem laidOut : laidOutB Tryz.prog = true := by kernel_rfl
def strsData {H : Type} (ls : List (List UInt8)) : DataW H := .agg (ls.map fun l => .lit (.string l))
theorem cells_of_strs {H : Type} {enc : TypeId × Value -> H} {P : Program} {w : World} {base : Nat} {sp : Nat -> Bool} {held : Bool} {fuel : Nat} {t e : TypeId} {n : Nat} {cs : List Value} {ls : List (List UInt8)} {p : List MemPlace}
 (ht : P.underlying t = some (.array n e)) (he : P.underlying e = some .string) (hce : P.cellsOf e = 1) (hct : P.cellsOf t = n)
 (h : DataW.trod enc P w base sp held fuel t cs = some (strsData ls, p)) : cs = ls.map fun l => Value.string ⟨l.toArray⟩ := by
 cases fuel with
 | zero => simp [DataW.trod] at h
 | succ fuel =>
   simp only [DataW.trod, ht, hce, hct, Nat.mul_one] at h
   split at h
   · rename_i hl
     obtain ⟨xs, hm, hx⟩ := Option.map_eq_some_iff.1 h
     have hxs : xs.map (·.1) = ls.map fun l => (DataW.lit (.string l) : DataW H) := by
      have := congrArg Prod.fst hx
      simpa [strsData] using this
     have hxl : xs.length = n := by simpa using Lib.mapM_length hm
     have hzl : ls.length = n := by
      have := congrArg List.length hxs; simp at this; omega
     apply List.ext_getElem?; intro i; by_cases hi : i < n
     · obtain ⟨b, hb, hf⟩ := Lib.mapM_at hm i i (by simp [hi])
       obtain ⟨z, hc, rfl, _⟩ := DataW.trod_string he hf
       have h1 : cs[i]? = some (.string z) := by
        have := congrArg (·[0]?) hc
        simpa [List.getElem?_take, List.getElem?_drop] using this
       have h2 : (xs.map (·.1))[i]? = some (DataW.lit (.string z.data.toList) : DataW H) := by simp [hb]
       rw [hxs] at h2; simp only [List.getElem?_map, Option.map_eq_some_iff, DataW.lit.injEq, Lit.string.injEq] at h2; obtain ⟨z', hz', e'⟩ := h2; rw [h1, List.getElem?_map, hz']; simp [e']
     · rw [List.getElem?_eq_none (by omega), List.getElem?_eq_none (by simp; omega)]
   · cases h
theorem strs_of_head {P : Program} {W : World} {name : String} {ls : List (List UInt8)} {g : Nat} {t e : TypeId} {n : Nat}
 (hg : P.globalNamed name = some g) (hty : (P.globals[g]?).map (·.type) = some t) (ht : P.underlying t = some (.array n e)) (he : P.underlying e = some .string) (hce : P.cellsOf e = 1) (hct : P.cellsOf t = n)
 (h : laidMet P [(name, strsData ls)] W) : ∀ i l, ls[i]? = some l -> W.cell? ⟨g, i, none⟩ = some (strV l) := by
 obtain ⟨ps, ⟨g', t', cs, fuel, p, q, hg', ht', hvar, hd, _, _⟩, _⟩ := h; obtain rfl := Option.some.inj (hg.symm.trans hg'); obtain rfl := Option.some.inj (hty.symm.trans ht'); have hcs := cells_of_strs ht he hce hct hd; intro i l hl; have h1 := World.var?_cell hg hvar i; rw [h1]; have h2 : cs.toList[i]? = some (Value.string ⟨l.toArray⟩) := by rw [hcs]; simp [hl]
 simpa [strV] using h2
theorem keptData : (Rows.laid_delver_parse_kept : DataW Unit) = strsData Pp.keptWords := by kernel_rfl
theorem wordsData : (Rows.laid_delver_parse_words : DataW Unit) = strsData Pp.opWords := by kernel_rfl
theorem table {W : World} {laid : List (String × DataW Unit)} (h : laidMetH Tryz.prog laid W) (e1 : (laid.filter fun x => x.1 == "delver/parse.kept") = [("delver/parse.kept", Rows.laid_delver_parse_kept)]) (e2 : (laid.filter fun x => x.1 == "delver/parse.words") = [("delver/parse.words", Rows.laid_delver_parse_words)]) : TabS W := by
 have h1 := h.filter fun x => x.1 == "delver/parse.kept"; rw [e1, keptData] at h1; have h2 := h.filter fun x => x.1 == "delver/parse.words"; rw [e2, wordsData] at h2; have g1 : laidMet Tryz.prog [("delver/parse.kept", strsData Pp.keptWords)] W := h1; have g2 : laidMet Tryz.prog [("delver/parse.words", strsData Pp.opWords)] W := h2; exact ⟨strs_of_head (by kernel_rfl) (by kernel_rfl) Tryz.underlying195 Tryz.underlying9 (by kernel_rfl) (by kernel_rfl) g2, strs_of_head (by kernel_rfl) (by kernel_rfl) Tryz.underlying171 Tryz.underlying9 (by kernel_rfl) (by kernel_rfl) g1⟩
def valOf : DataW Unit -> Value
 | .lit (.int k n) => .int k n
 | .lit (.string l) => .string ⟨l.toArray⟩
 | _ => undef
def tabCells : DataW Unit -> Array Value
 | .agg ds => (ds.map valOf).toArray
 | _ => #[]
def putTab (d : DataW Unit) : Obj -> Obj
 | .cells _ t f => .cells (tabCells d) t f
 | o => o
def laidWorld (P : Program) (os : Os) : World :=
 { World.holding P os ⟨#[], #[], []⟩ with heap := ((World.holding P os ⟨#[], #[], []⟩).heap.modify 1 (putTab Rows.laid_delver_parse_words)).modify 0 (putTab Rows.laid_delver_parse_kept) }
end Go.Proofs.YtbbbnciejmdpfaaGreatDoor

/- What the laws of this seat lean on: 1 texts. -/
import Derived.Test.YtbbbnciejmdpfabGreatDoorPkBn
import Derived.Deep.RegionHeld3
set_option maxRecDepth 100000
set_option maxHeartbeats 64000000
set_option linter.unusedVariables false
set_option linter.unusedSimpArgs false
namespace Go.Proofs.YtbbbnciejmdpfabGreatDoor
open Go.RowKit
namespace Ly
def ownS (c : Pp.XCls) : List Pp.Slt := Pp.ownL c false c.fields
def backS (rs : List Pp.XCls) (m : Nat) : List Pp.Slt := (rs.drop m).reverse.flatMap ownS
theorem backS_step {rs : List Pp.XCls} {m : Nat} {c : Pp.XCls} (h : rs[m]? = some c) : backS rs m = backS rs (m + 1) ++ ownS c := by
 unfold backS; have hlt := (List.getElem?_eq_some_iff.1 h).1; have h1 : rs[m] = c := by simpa [List.getElem?_eq_getElem hlt] using h
 rw [List.drop_eq_getElem_cons hlt, h1, List.reverse_cons, List.flatMap_append]; simp
theorem backS_len {rs : List Pp.XCls} (h : ∀ c ∈ rs, c.fields.length <= 100) : ∀ m, (backS rs m).length <= rs.length * 100 := by
 intro m; unfold backS
 have key : ∀ l : List Pp.XCls, (∀ c ∈ l, c.fields.length <= 100) -> (l.flatMap ownS).length <= l.length * 100 := by
  intro l hl
  induction l with
  | nil => simp
  | cons a l ih =>
    have h1 := Pp.ownL_len a false a.fields; have h2 := hl a (by simp)
    have h3 := ih fun c hc => hl c (List.mem_cons_of_mem _ hc); rw [List.flatMap_cons, List.length_append, List.length_cons]; unfold ownS at *
    omega
 have h1 := key (rs.drop m).reverse fun c hc => h c (List.mem_of_mem_drop (List.mem_reverse.1 hc)); rw [List.length_reverse, List.length_drop] at h1; omega
def accS (rs : List Pp.XCls) (m : Nat) (c : Pp.XCls) (j : Nat) : List Pp.Slt := backS rs (m + 1) ++ Pp.ownL c false (c.fields.take j)
theorem accS_zero (rs : List Pp.XCls) (m : Nat) (c : Pp.XCls) : accS rs m c 0 = backS rs (m + 1) := by unfold accS; simp [Pp.ownL]
theorem accS_yes {rs : List Pp.XCls} {m j : Nat} {c : Pp.XCls} {x : Pp.Fld} (hx : c.fields[j]? = some x) (h : x.stat = false) : accS rs m c (j + 1) = accS rs m c j ++ [⟨c.name, x.name, x.ty⟩] := by
 unfold accS; rw [List.take_add_one, hx, Option.toList_some, Pp.ownL_snoc, if_pos h, List.append_assoc]
theorem accS_no {rs : List Pp.XCls} {m j : Nat} {c : Pp.XCls} {x : Pp.Fld} (hx : c.fields[j]? = some x) (h : x.stat = true) : accS rs m c (j + 1) = accS rs m c j := by
 unfold accS; rw [List.take_add_one, hx, Option.toList_some, Pp.ownL_snoc, if_neg (by rw [h]; decide), List.append_nil]
theorem accS_end {rs : List Pp.XCls} {m j : Nat} {c : Pp.XCls} (h : rs[m]? = some c) (hj : c.fields.length <= j) : accS rs m c j = backS rs m := by
 unfold accS; rw [List.take_of_length_le hj, backS_step h]
 rfl
theorem accS_len {rs : List Pp.XCls} (h : ∀ c ∈ rs, c.fields.length <= 100) {m j : Nat} {c : Pp.XCls} (hc : rs[m]? = some c) : (accS rs m c j).length <= rs.length * 100 + 100 := by
 unfold accS; rw [List.length_append]; have h1 := backS_len h (m + 1); have h2 := Pp.ownL_len c false (c.fields.take j); rw [List.length_take] at h2; have h3 := h c (List.mem_of_getElem? hc); omega
end Ly
theorem slotsOf_any {cs : List Pp.XCls} {up : List (List Nat)} (he : Hr.errL cs = 0) (hg : Hr.growL (Hr.allL cs) (Hr.allL cs) = some up) (v : Value) (n : Pp.Bs) (k : Nat) (hk : Hr.placeL (Hr.allL cs) n = some k) (w : World) (h : RowX w 6 (ClsX w) v (Hr.allL cs)) :
 Calls Tryz.prog 35 #[v, .string ⟨n.toArray⟩] w fun e w' => ∃ v', e = .returned v' /\ Ow.OwnX w' w.heap.size 80 4 SltX v' ((Ly.pnet (Hr.allL cs) up).sl k) /\ Below w.heap.size w w' := by
 have hkl : k < (Hr.allL cs).length := by
  obtain ⟨c, h1, _⟩ := Hr.placeL_lt hk; exact (List.getElem?_eq_some_iff.1 h1).1
 have HRow := hide (row_any he hg v n k hk w w (Below.refl _ _) h); obtain ⟨rs, hrs⟩ : ∃ rs, rs = (Ly.rowP (Hr.allL cs) up k).map (Ly.clP (Hr.allL cs)) := ⟨_, rfl⟩
 have HSl : Hid (Ly.backS rs 0 = (Ly.pnet (Hr.allL cs) up).sl k) := hide (by
  rw [<- (Ly.row_slots he hg _ k hkl (Nat.lt_succ_self _)).1, hrs]; unfold Ly.backS; rw [List.drop_zero, <- List.map_reverse, List.flatMap_map]
  rfl)
 have hrl : rs.length <= 19 := by rw [hrs, List.length_map]; exact Ly.row_len he hg hkl
 have HFl : Hid (∀ c ∈ rs, c.fields.length <= 100) := hide fun c hc => by
  rw [hrs] at hc; obtain ⟨q, hq, rfl⟩ := List.mem_map.1 hc; exact Nat.le_trans (Ly.all_facts (Hr.err_zero he).1 (Ly.at_of ((Ly.row_lt he hg _ k hkl (Nat.lt_succ_self _)).2 q hq))).2.2.2.1 (by decide)
 rw [<- hrs] at HRow; obtain ⟨sl, hsl⟩ : ∃ q, q = (Ly.pnet (Hr.allL cs) up).sl k := ⟨_, rfl⟩; rw [<- hsl] at HSl ⊢; obtain ⟨va, vc, rfl, _⟩ := h.len; generalize (Hr.allL cs).length = nl at *
 clear h he hg hk hkl hrs hsl; obtain ⟨nr, hnr⟩ : ∃ q, q = rs.length := ⟨_, rfl⟩; have HNr := hide hnr; have hnr1 : (nr : Int) <= 19 := by omega
 obtain ⟨j0, hj, hj0, hj1, hj2⟩ := Ow.info_of' Ow.i_slot; go_enter Tryz.func35, Tryz.ntmps35; go_wp2_with fail; refine HRow.out.mono ?_; rintro e w1 ⟨vr, rfl, ho1, hb1⟩; have HB1 := hide hb1; have hrow := ho1.row (shp_clsw w) fun _ _ h => h; obtain ⟨ra, rc, rfl, _⟩ := hrow.len; rw [<- hnr] at hrow ⊢; have HRr := hide hrow; clear HRow hb1 ho1 hrow hnr; go_wp2_with fail
 go_loopw [5, 7] (fun ov iv wr => ∃ (m : Nat) (z : Int) (la : Option Addr) (lc ln : Nat), m <= nr /\ z = (m : Int) - 1 /\ iv = .int .i64 z /\ ov = .slice la ln lc /\ Hid (Below w1.heap.size w1 wr) /\ Hid (Ow.OwnX wr w1.heap.size 80 4 SltX (.slice la ln lc) (Ly.backS rs m))) (fun _ iv _ => (intOf iv + 1).toNat)
 case atStart => exact ⟨nr, _, none, 0, 0, Nat.le_refl _, rfl, by first | rfl | go_num, rfl, hide (Below.refl _ _), hide (by
  have : Ly.backS rs nr = [] := by unfold Ly.backS; rw [List.drop_of_length_le (by rw [<- HNr.out]; exact Nat.le_refl _)]; rfl
  rw [this]
  exact Ow.OwnX.nil _ _ _ _ _)⟩
 case round =>
  obtain ⟨m, z, la, lc, ln, hm, hz, rfl, rfl, HB, HO⟩ := hrel; cases m with
  | zero =>
    have hz1 : z = -1 := by omega
    subst hz1; clear hz hm; go_wp2_with fail; go_ret; refine ⟨_, rfl, ?_, HB1.out.trans (HB.out.mono HB1.out.size)⟩; rw [<- HSl.out]; exact HO.out.low HB1.out.size fun _ _ h => h
  | succ m =>
    have hz1 : z = (m : Int) := by omega
    subst hz1; clear hz; have hmr : m < nr := hm; obtain ⟨c, hc⟩ : ∃ c, rs[m]? = some c := ⟨rs[m]'(by rw [<- HNr.out]; exact hmr), List.getElem?_eq_getElem _⟩
    obtain ⟨g, o, rfl, ys, wf, hcc⟩ := Ow.row_at' HRr.out hc; have HC := hide hc; obtain ⟨ia, ic, fa, fc, ma, mc, rfl, _, xf, _⟩ := cls_open wf; have HXf := hide xf; have HCells := hide (fun wx (hb : Below w1.heap.size w1 wx) => hcc wx hb); have hfl := HFl.out c (List.mem_of_getElem? hc); obtain ⟨nf, hnf⟩ : ∃ q, q = c.fields.length := ⟨_, rfl⟩; have HNf := hide hnf; rw [<- hnf] at HXf hfl HCells; have hf1 : (nf : Int) <= 100 := by omega
    clear hc wf hcc xf hnf; have hmi : (m : Int) < (nr : Int) := by omega
    have hm0 : (0 : Int) <= (m : Int) := by omega
    go_wp2_with fail
    go_loopw [5, 8] (fun ov jv wr => ∃ (j : Nat) (la : Option Addr) (lc ln : Nat), j <= nf /\ jv = .int .i64 j /\ ov = .slice la ln lc /\ Hid (ln = (Ly.accS rs m c j).length) /\ Hid (Below w1.heap.size w1 wr) /\ Hid (Ow.OwnX wr w1.heap.size 80 4 SltX (.slice la ln lc) (Ly.accS rs m c j))) (fun _ jv _ => nf - (intOf jv).toNat)
    case atStart =>
     obtain ⟨_, _, hsh⟩ := HO.out.shape; injection hsh with _ h2 _; exact ⟨0, la, lc, ln, Nat.zero_le _, rfl, rfl, hide (by rw [Ly.accS_zero]; exact h2), HB, hide (by rw [Ly.accS_zero]; exact HO.out)⟩
    case round =>
     clear HB HO; obtain ⟨j, la, lc, ln, hjn, rfl, rfl, HLn, HB, HO⟩ := hrel; have HBw := hide (HB1.out.trans (HB.out.mono HB1.out.size)); have c4 := HCells.out wr HB.out 4 _ rfl
     have hln : ln <= 10000 := by
      rw [HLn.out]; have := Ly.accS_len HFl.out (j := j) HC.out; have h2 := HNr.out; omega
     by_cases hjl : j < nf
     · obtain ⟨x, hx⟩ : ∃ x, c.fields[j]? = some x := ⟨c.fields[j]'(by rw [<- HNf.out]; exact hjl), List.getElem?_eq_getElem _⟩
       obtain ⟨g2, o2, rfl, ys, wf, hc2⟩ := Ow.row_at' HXf.out hx; have hG := hide (hc2 wr HBw.out); have HX := hide hx; obtain ⟨rfl, _⟩ := wf; have r0 := hG.out 0 _ rfl; have r1 := hG.out 1 _ rfl; have r2 := hG.out 2 _ rfl; have r3 := hG.out 3 _ rfl; rw [Nat.add_zero] at r0; obtain ⟨fs, hfs⟩ : ∃ q, q = x.stat := ⟨_, rfl⟩; have HFs := hide hfs; rw [<- hfs] at r3; clear hc2 hx hG hfs; have hjl' : (j : Int) < (nf : Int) := by omega
       have hA : Below wr.heap.size wr (wr.alloc (.cells #[.string ⟨x.name.toArray⟩, .int .i64 x.ty.kind, .string ⟨x.ty.name.toArray⟩, .bool fs] 43)) := (Below.refl _ _).alloc (Nat.le_refl _) _; have HBA := hide (HB.out.trans (hA.mono HB.out.size)); have HOA := hide (HO.out.on hA fun _ _ h => h); have hbx := heap_alloc_new wr (.cells #[.string ⟨x.name.toArray⟩, .int .i64 x.ty.kind, .string ⟨x.ty.name.toArray⟩, .bool fs] 43); have b0 := cell_box hbx 0; have b1 := cell_box hbx 1; have b2 := cell_box hbx 2; have b3 := cell_box hbx 3; have HBx := hide hbx; have hszb := Ow.lt_of_blk hbx; clear hA hbx; cases fs with
       | true =>
         have HAc := hide (Ly.accS_no (rs := rs) (m := m) HX.out HFs.out.symm); go_wp2_with fail
         go_roundw
         case rel => exact ⟨j + 1, la, lc, ln, by omega, by go_num, rfl, hide (by rw [HAc.out]; exact HLn.out), HBA, hide (by rw [HAc.out]; exact HOA.out)⟩
         case measure => simp [intOf]; omega
       | false =>
         have HAc := hide (Ly.accS_yes (rs := rs) (m := m) HX.out HFs.out.symm); have HN0 := hide (fun wx (hb : Below w1.heap.size w1 wx) => HCells.out wx hb 0 _ rfl); go_wp2_with fail; generalize (wr.alloc (.cells #[.string ⟨x.name.toArray⟩, .int .i64 x.ty.kind, .string ⟨x.ty.name.toArray⟩, .bool false] 43)) = wB at *
         have hD1 : Below wB.heap.size wB wB.drew := Below.drew (Below.refl _ _); have hD2 : Below wB.heap.size wB (wB.alloc (.cells #[.string ⟨c.name.toArray⟩, .string ⟨x.name.toArray⟩, .int .i64 x.ty.kind, .string ⟨x.ty.name.toArray⟩] 80)).drew := Below.drew ((Below.refl _ _).alloc (Nat.le_refl _) _); have hD3 : Below wB.heap.size wB (wB.drew.alloc (.cells #[.string ⟨c.name.toArray⟩, .string ⟨x.name.toArray⟩, .int .i64 x.ty.kind, .string ⟨x.ty.name.toArray⟩] 80)) := hD1.alloc (Nat.le_refl _) _; have HS : Hid (∀ wz, Below wB.heap.size wB wz -> wz.cell? ⟨g, o + m * 6, none⟩ = some (.string ⟨c.name.toArray⟩) /\ wz.cell? ⟨wr.heap.size, 0, none⟩ = some (.string ⟨x.name.toArray⟩) /\ wz.cell? ⟨wr.heap.size, 1, none⟩ = some (.int .i64 x.ty.kind) /\ wz.cell? ⟨wr.heap.size, 2, none⟩ = some (.string ⟨x.ty.name.toArray⟩)) := hide fun wz hb => ⟨by have := HN0.out wz (HBA.out.trans (hb.mono HBA.out.size)); rwa [Nat.add_zero] at this, (hb.cell (p := ⟨wr.heap.size, 0, none⟩) hszb).trans b0, (hb.cell (p := ⟨wr.heap.size, 1, none⟩) hszb).trans b1, (hb.cell (p := ⟨wr.heap.size, 2, none⟩) hszb).trans b2⟩
         have HOf := hide (fun wx (hb : Below wB.heap.size wB wx) => HOA.out.on hb fun _ _ h => h); have HR2 : Hid (RowX (wB.alloc (.cells #[.string ⟨c.name.toArray⟩, .string ⟨x.name.toArray⟩, .int .i64 x.ty.kind, .string ⟨x.ty.name.toArray⟩] 80)).drew 4 SltX (.slice (some ⟨wB.heap.size, 0, none⟩) 1 1) [⟨c.name, x.name, x.ty⟩]) := hide ((Ow.row_one' (P := SltX) (x := ⟨c.name, x.name, x.ty⟩) (ys := [.string ⟨c.name.toArray⟩, .string ⟨x.name.toArray⟩, .int .i64 x.ty.kind, .string ⟨x.ty.name.toArray⟩]) rfl).on (Below.drew (Below.refl _ _)) fun _ _ h => h); have HD1 := hide hD1; have HD2 := hide hD2; have hll : (Ly.accS rs m c j).length <= 10000 := by rw [<- HLn.out]; exact hln
         have hbase : w1.heap.size <= (wB.alloc (.cells #[.string ⟨c.name.toArray⟩, .string ⟨x.name.toArray⟩, .int .i64 x.ty.kind, .string ⟨x.ty.name.toArray⟩] 80)).drew.heap.size := Nat.le_trans HBA.out.size hD2.size; clear hD1 hD2 hD3 b0 b1 b2 b3 r0 r1 r2 r3 c4
         go_region_held3 (fun wz => wz.cell? ⟨g, o + m * 6, none⟩ = some (.string ⟨c.name.toArray⟩) /\ wz.cell? ⟨wr.heap.size, 0, none⟩ = some (.string ⟨x.name.toArray⟩) /\ wz.cell? ⟨wr.heap.size, 1, none⟩ = some (.int .i64 x.ty.kind) /\ wz.cell? ⟨wr.heap.size, 2, none⟩ = some (.string ⟨x.ty.name.toArray⟩)) (first | exact HS5.out | exact HS.out _ HD2.out | exact HS.out _ HD1.out)
          (first
            | (refine Ow.step_app rfl (.tmp 41) (.tmp 52) 77 rfl Tryz.underlying77 hj hj0 hj1 hj2 (by decide) shp_slt (by first | rfl | simp [Act.eval, Act.put]) (HOf.out _ HD2.out) (by first | rfl | simp [Act.eval, Act.put]) HR2.out (by simp; omega) (by decide) hbase ?_
               intro v5 w5 ho5 hg5; have hK := Ow.kx_grown (HOf.out _ HD2.out) hg5; have HB5 : Hid (Below w1.heap.size w1 w5) := hide ((HBA.out.trans (HD2.out.mono HBA.out.size)).trans (Ow.bel_grown (HOf.out _ HD2.out) hbase hg5)); have hx5 := hK.blk _ _ _ _ ((HD2.out.block _ hszb).trans HBx.out) (by decide)
               have HS5 : Hid (w5.cell? ⟨g, o + m * 6, none⟩ = some (.string ⟨c.name.toArray⟩) /\ w5.cell? ⟨wr.heap.size, 0, none⟩ = some (.string ⟨x.name.toArray⟩) /\ w5.cell? ⟨wr.heap.size, 1, none⟩ = some (.int .i64 x.ty.kind) /\ w5.cell? ⟨wr.heap.size, 2, none⟩ = some (.string ⟨x.ty.name.toArray⟩)) := hide ⟨by have := HN0.out w5 HB5.out; rwa [Nat.add_zero] at this, cell_box hx5 0, cell_box hx5 1, cell_box hx5 2⟩
               have HO5 : Hid (Ow.OwnX w5 w1.heap.size 80 4 SltX v5 (Ly.accS rs m c (j + 1))) := hide (by rw [HAc.out]; exact ho5)
               obtain ⟨xa, xc, hv5⟩ := HO5.out.shape; obtain ⟨n5, hn5⟩ : ∃ y, y = (Ly.accS rs m c (j + 1)).length := ⟨_, rfl⟩; rw [<- hn5] at hv5; have HN5 := hide hn5; clear hK hx5 ho5 hg5 hn5
               subst hv5)
            | fail)
         all_goals go_wp2_with fail
         all_goals go_roundw
         all_goals first
          | exact ⟨j + 1, xa, xc, n5, by omega, by go_num, rfl, HN5, HB5, HO5⟩
          | (simp [intOf]; omega)
     · have hjn2 : j = nf := by omega
       subst hjn2; have hnl : ¬ ((j : Int) < (j : Int)) := by omega
       have HEnd : Hid (Ly.accS rs m c j = Ly.backS rs m) := hide (Ly.accS_end HC.out (by rw [<- HNf.out]; exact Nat.le_refl _))
       go_wp2_with fail
       go_roundw
       case rel => exact ⟨m, (m : Int) - 1, la, lc, ln, by omega, rfl, by go_num, rfl, HB, hide (by rw [<- HEnd.out]; exact HO.out)⟩
       case measure => first | (simp [intOf]; done) | (simp [intOf]; omega)
end Go.Proofs.YtbbbnciejmdpfabGreatDoor

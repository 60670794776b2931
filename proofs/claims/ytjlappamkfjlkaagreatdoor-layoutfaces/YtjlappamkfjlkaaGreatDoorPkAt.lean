/- What the laws of this seat lean on: 4 texts. -/
import Derived.Test.YtjlappamkfjlkaaGreatDoorPkAs
import Derived.Deep.RegionHeld3
import Derived.Test.YtjlappamkfjlkaaGreatDoorPkAe
import Derived.Test.YtjlappamkfjlkaaGreatDoorPkAo
set_option maxRecDepth 100000
set_option maxHeartbeats 64000000
set_option linter.unusedVariables false
set_option linter.unusedSimpArgs false
namespace Go.Proofs.YtjlappamkfjlkaaGreatDoor
open Go.RowKit
namespace Ly
def ownS (c : Pp.XCls) : List Pp.Slt := Pp.ownL c false c.fields
def backS (rs : List Pp.XCls) (m : Nat) : List Pp.Slt := (rs.drop m).reverse.flatMap ownS
theorem backS_step {rs : List Pp.XCls} {m : Nat} {c : Pp.XCls} (h : rs[m]? = some c) : backS rs m = backS rs (m + 1) ++ ownS c := by
 unfold backS; have hlt := (List.getElem?_eq_some_iff.1 h).1; have h1 : rs[m] = c := by simpa [List.getElem?_eq_getElem hlt] using h
 rw [List.drop_eq_getElem_cons hlt, h1, List.reverse_cons, List.flatMap_append]; simp
theorem backS_len {rs : List Pp.XCls} (h : ∀ c ∈ rs, c.fields.length <= 100) : ∀ m, (backS rs m).length <= rs.length * 100 := by
 intro m; unfold backS
 have key : ∀ l : List Pp.XCls, (∀ c ∈ l, c.fields.length <= 100) -> (l.flatMap ownS).length <= l.length * 100 := by
  intro l hl
  induction l with
  | nil => simp
  | cons a l ih =>
    have h1 := Pp.ownL_len a false a.fields; have h2 := hl a (by simp)
    have h3 := ih fun c hc => hl c (List.mem_cons_of_mem _ hc); rw [List.flatMap_cons, List.length_append, List.length_cons]; unfold ownS at *
    omega
 have h1 := key (rs.drop m).reverse fun c hc => h c (List.mem_of_mem_drop (List.mem_reverse.1 hc)); rw [List.length_reverse, List.length_drop] at h1; omega
def accS (rs : List Pp.XCls) (m : Nat) (c : Pp.XCls) (j : Nat) : List Pp.Slt := backS rs (m + 1) ++ Pp.ownL c false (c.fields.take j)
theorem accS_zero (rs : List Pp.XCls) (m : Nat) (c : Pp.XCls) : accS rs m c 0 = backS rs (m + 1) := by unfold accS; simp [Pp.ownL]
theorem accS_yes {rs : List Pp.XCls} {m j : Nat} {c : Pp.XCls} {x : Pp.Fld} (hx : c.fields[j]? = some x) (h : x.stat = false) : accS rs m c (j + 1) = accS rs m c j ++ [⟨c.name, x.name, x.ty⟩] := by
 unfold accS; rw [List.take_add_one, hx, Option.toList_some, Pp.ownL_snoc, if_pos h, List.append_assoc]
theorem accS_no {rs : List Pp.XCls} {m j : Nat} {c : Pp.XCls} {x : Pp.Fld} (hx : c.fields[j]? = some x) (h : x.stat = true) : accS rs m c (j + 1) = accS rs m c j := by
 unfold accS; rw [List.take_add_one, hx, Option.toList_some, Pp.ownL_snoc, if_neg (by rw [h]; decide), List.append_nil]
theorem accS_end {rs : List Pp.XCls} {m j : Nat} {c : Pp.XCls} (h : rs[m]? = some c) (hj : c.fields.length <= j) : accS rs m c j = backS rs m := by
 unfold accS; rw [List.take_of_length_le hj, backS_step h]
 rfl
theorem accS_len {rs : List Pp.XCls} (h : ∀ c ∈ rs, c.fields.length <= 100) {m j : Nat} {c : Pp.XCls} (hc : rs[m]? = some c) : (accS rs m c j).length <= rs.length * 100 + 100 := by
 unfold accS; rw [List.length_append]; have h1 := backS_len h (m + 1); have h2 := Pp.ownL_len c false (c.fields.take j); rw [List.length_take] at h2; have h3 := h c (List.mem_of_getElem? hc); omega
end Ly
theorem slotsOf_any {cs : List Pp.XCls} {up : List (List Nat)} (he : Hr.errL cs = 0) (hg : Hr.growL (Hr.allL cs) (Hr.allL cs) = some up) (v : Value) (n : Pp.Bs) (k : Nat) (hk : Hr.placeL (Hr.allL cs) n = some k) (w : World) (h : RowX w 6 (ClsX w) v (Hr.allL cs)) :
 Calls Tryz.prog 49 #[v, .string ⟨n.toArray⟩] w fun e w' => ∃ v', e = .returned v' /\ Ow.OwnX w' w.heap.size 64 4 SltX v' ((Ly.pnet (Hr.allL cs) up).sl k) /\ Below w.heap.size w w' := by
 have hkl : k < (Hr.allL cs).length := by
  obtain ⟨c, h1, _⟩ := Hr.placeL_lt hk; exact (List.getElem?_eq_some_iff.1 h1).1
 have HRow := hide (row_any he hg v n k hk w w (Below.refl _ _) h); obtain ⟨rs, hrs⟩ : ∃ rs, rs = (Ly.rowP (Hr.allL cs) up k).map (Ly.clP (Hr.allL cs)) := ⟨_, rfl⟩
 have HSl : Hid (Ly.backS rs 0 = (Ly.pnet (Hr.allL cs) up).sl k) := hide (by
  rw [<- (Ly.row_slots he hg _ k hkl (Nat.lt_succ_self _)).1, hrs]; unfold Ly.backS; rw [List.drop_zero, <- List.map_reverse, List.flatMap_map]
  rfl)
 have hrl : rs.length <= 19 := by rw [hrs, List.length_map]; exact Ly.row_len he hg hkl
 have HFl : Hid (∀ c ∈ rs, c.fields.length <= 100) := hide fun c hc => by
  rw [hrs] at hc; obtain ⟨q, hq, rfl⟩ := List.mem_map.1 hc; exact Nat.le_trans (Ly.all_facts (Hr.err_zero he).1 (Ly.at_of ((Ly.row_lt he hg _ k hkl (Nat.lt_succ_self _)).2 q hq))).2.2.2.1 (by decide)
 rw [<- hrs] at HRow; obtain ⟨sl, hsl⟩ : ∃ q, q = (Ly.pnet (Hr.allL cs) up).sl k := ⟨_, rfl⟩; rw [<- hsl] at HSl ⊢; obtain ⟨va, vc, rfl, _⟩ := h.len; generalize (Hr.allL cs).length = nl at *
 clear h he hg hk hkl hrs hsl; obtain ⟨nr, hnr⟩ : ∃ q, q = rs.length := ⟨_, rfl⟩; have HNr := hide hnr; have hnr1 : (nr : Int) <= 19 := by omega
 obtain ⟨j0, hj, hj0, hj1, hj2⟩ := Ow.info_of' Ow.i_slot; go_enter Tryz.func49, Tryz.ntmps49; go_wp2_with fail; refine HRow.out.mono ?_; rintro e w1 ⟨vr, rfl, ho1, hb1⟩; have HB1 := hide hb1; have hrow := ho1.row (shp_clsw w) fun _ _ h => h; obtain ⟨ra, rc, rfl, _⟩ := hrow.len; rw [<- hnr] at hrow ⊢; have HRr := hide hrow; clear HRow hb1 ho1 hrow hnr; go_wp2_with fail
 go_loopw [5, 7] (fun ov iv wr => ∃ (m : Nat) (z : Int) (la : Option Addr) (lc ln : Nat), m <= nr /\ z = (m : Int) - 1 /\ iv = .int .i64 z /\ ov = .slice la ln lc /\ Hid (Below w1.heap.size w1 wr) /\ Hid (Ow.OwnX wr w1.heap.size 64 4 SltX (.slice la ln lc) (Ly.backS rs m))) (fun _ iv _ => (intOf iv + 1).toNat)
 case atStart => exact ⟨nr, _, none, 0, 0, Nat.le_refl _, rfl, by first | rfl | go_num, rfl, hide (Below.refl _ _), hide (by
  have : Ly.backS rs nr = [] := by unfold Ly.backS; rw [List.drop_of_length_le (by rw [<- HNr.out]; exact Nat.le_refl _)]; rfl
  rw [this]
  exact Ow.OwnX.nil _ _ _ _ _)⟩
 case round =>
  obtain ⟨m, z, la, lc, ln, hm, hz, rfl, rfl, HB, HO⟩ := hrel; cases m with
  | zero =>
    have hz1 : z = -1 := by omega
    subst hz1; clear hz hm; go_wp2_with fail; go_ret; refine ⟨_, rfl, ?_, HB1.out.trans (HB.out.mono HB1.out.size)⟩; rw [<- HSl.out]; exact HO.out.low HB1.out.size fun _ _ h => h
  | succ m =>
    have hz1 : z = (m : Int) := by omega
    subst hz1; clear hz; have hmr : m < nr := hm; obtain ⟨c, hc⟩ : ∃ c, rs[m]? = some c := ⟨rs[m]'(by rw [<- HNr.out]; exact hmr), List.getElem?_eq_getElem _⟩
    obtain ⟨g, o, rfl, ys, wf, hcc⟩ := Ow.row_at' HRr.out hc; have HC := hide hc; obtain ⟨ia, ic, fa, fc, ma, mc, rfl, _, xf, _⟩ := cls_open wf; have HXf := hide xf; have HCells := hide (fun wx (hb : Below w1.heap.size w1 wx) => hcc wx hb); have hfl := HFl.out c (List.mem_of_getElem? hc); obtain ⟨nf, hnf⟩ : ∃ q, q = c.fields.length := ⟨_, rfl⟩; have HNf := hide hnf; rw [<- hnf] at HXf hfl HCells; have hf1 : (nf : Int) <= 100 := by omega
    clear hc wf hcc xf hnf; have hmi : (m : Int) < (nr : Int) := by omega
    have hm0 : (0 : Int) <= (m : Int) := by omega
    go_wp2_with fail
    go_loopw [5, 8] (fun ov jv wr => ∃ (j : Nat) (la : Option Addr) (lc ln : Nat), j <= nf /\ jv = .int .i64 j /\ ov = .slice la ln lc /\ Hid (ln = (Ly.accS rs m c j).length) /\ Hid (Below w1.heap.size w1 wr) /\ Hid (Ow.OwnX wr w1.heap.size 64 4 SltX (.slice la ln lc) (Ly.accS rs m c j))) (fun _ jv _ => nf - (intOf jv).toNat)
    case atStart =>
     obtain ⟨_, _, hsh⟩ := HO.out.shape; injection hsh with _ h2 _; exact ⟨0, la, lc, ln, Nat.zero_le _, rfl, rfl, hide (by rw [Ly.accS_zero]; exact h2), HB, hide (by rw [Ly.accS_zero]; exact HO.out)⟩
    case round =>
     clear HB HO; obtain ⟨j, la, lc, ln, hjn, rfl, rfl, HLn, HB, HO⟩ := hrel; have HBw := hide (HB1.out.trans (HB.out.mono HB1.out.size)); have c4 := HCells.out wr HB.out 4 _ rfl
     have hln : ln <= 10000 := by
      rw [HLn.out]; have := Ly.accS_len HFl.out (j := j) HC.out; have h2 := HNr.out; omega
     by_cases hjl : j < nf
     · obtain ⟨x, hx⟩ : ∃ x, c.fields[j]? = some x := ⟨c.fields[j]'(by rw [<- HNf.out]; exact hjl), List.getElem?_eq_getElem _⟩
       obtain ⟨g2, o2, rfl, ys, wf, hc2⟩ := Ow.row_at' HXf.out hx; have hG := hide (hc2 wr HBw.out); have HX := hide hx; obtain ⟨rfl, _⟩ := wf; have r0 := hG.out 0 _ rfl; have r1 := hG.out 1 _ rfl; have r2 := hG.out 2 _ rfl; have r3 := hG.out 3 _ rfl; rw [Nat.add_zero] at r0; obtain ⟨fs, hfs⟩ : ∃ q, q = x.stat := ⟨_, rfl⟩; have HFs := hide hfs; rw [<- hfs] at r3; clear hc2 hx hG hfs; have hjl' : (j : Int) < (nf : Int) := by omega
       have hA : Below wr.heap.size wr (wr.alloc (.cells #[.string ⟨x.name.toArray⟩, .int .i64 x.ty.kind, .string ⟨x.ty.name.toArray⟩, .bool fs] 72)) := (Below.refl _ _).alloc (Nat.le_refl _) _; have HBA := hide (HB.out.trans (hA.mono HB.out.size)); have HOA := hide (HO.out.on hA fun _ _ h => h); have hbx := heap_alloc_new wr (.cells #[.string ⟨x.name.toArray⟩, .int .i64 x.ty.kind, .string ⟨x.ty.name.toArray⟩, .bool fs] 72); have b0 := cell_box hbx 0; have b1 := cell_box hbx 1; have b2 := cell_box hbx 2; have b3 := cell_box hbx 3; have HBx := hide hbx; have hszb := Ow.lt_of_blk hbx; clear hA hbx; cases fs with
       | true =>
         have HAc := hide (Ly.accS_no (rs := rs) (m := m) HX.out HFs.out.symm); go_wp2_with fail
         go_roundw
         case rel => exact ⟨j + 1, la, lc, ln, by omega, by go_num, rfl, hide (by rw [HAc.out]; exact HLn.out), HBA, hide (by rw [HAc.out]; exact HOA.out)⟩
         case measure => simp [intOf]; omega
       | false =>
         have HAc := hide (Ly.accS_yes (rs := rs) (m := m) HX.out HFs.out.symm); have HN0 := hide (fun wx (hb : Below w1.heap.size w1 wx) => HCells.out wx hb 0 _ rfl); go_wp2_with fail; generalize (wr.alloc (.cells #[.string ⟨x.name.toArray⟩, .int .i64 x.ty.kind, .string ⟨x.ty.name.toArray⟩, .bool false] 72)) = wB at *
         have hD1 : Below wB.heap.size wB wB.drew := Below.drew (Below.refl _ _); have hD2 : Below wB.heap.size wB (wB.alloc (.cells #[.string ⟨c.name.toArray⟩, .string ⟨x.name.toArray⟩, .int .i64 x.ty.kind, .string ⟨x.ty.name.toArray⟩] 64)).drew := Below.drew ((Below.refl _ _).alloc (Nat.le_refl _) _); have hD3 : Below wB.heap.size wB (wB.drew.alloc (.cells #[.string ⟨c.name.toArray⟩, .string ⟨x.name.toArray⟩, .int .i64 x.ty.kind, .string ⟨x.ty.name.toArray⟩] 64)) := hD1.alloc (Nat.le_refl _) _; have HS : Hid (∀ wz, Below wB.heap.size wB wz -> wz.cell? ⟨g, o + m * 6, none⟩ = some (.string ⟨c.name.toArray⟩) /\ wz.cell? ⟨wr.heap.size, 0, none⟩ = some (.string ⟨x.name.toArray⟩) /\ wz.cell? ⟨wr.heap.size, 1, none⟩ = some (.int .i64 x.ty.kind) /\ wz.cell? ⟨wr.heap.size, 2, none⟩ = some (.string ⟨x.ty.name.toArray⟩)) := hide fun wz hb => ⟨by have := HN0.out wz (HBA.out.trans (hb.mono HBA.out.size)); rwa [Nat.add_zero] at this, (hb.cell (p := ⟨wr.heap.size, 0, none⟩) hszb).trans b0, (hb.cell (p := ⟨wr.heap.size, 1, none⟩) hszb).trans b1, (hb.cell (p := ⟨wr.heap.size, 2, none⟩) hszb).trans b2⟩
         have HOf := hide (fun wx (hb : Below wB.heap.size wB wx) => HOA.out.on hb fun _ _ h => h); have HR2 : Hid (RowX (wB.alloc (.cells #[.string ⟨c.name.toArray⟩, .string ⟨x.name.toArray⟩, .int .i64 x.ty.kind, .string ⟨x.ty.name.toArray⟩] 64)).drew 4 SltX (.slice (some ⟨wB.heap.size, 0, none⟩) 1 1) [⟨c.name, x.name, x.ty⟩]) := hide ((Ow.row_one' (P := SltX) (x := ⟨c.name, x.name, x.ty⟩) (ys := [.string ⟨c.name.toArray⟩, .string ⟨x.name.toArray⟩, .int .i64 x.ty.kind, .string ⟨x.ty.name.toArray⟩]) rfl).on (Below.drew (Below.refl _ _)) fun _ _ h => h); have HD1 := hide hD1; have HD2 := hide hD2; have hll : (Ly.accS rs m c j).length <= 10000 := by rw [<- HLn.out]; exact hln
         have hbase : w1.heap.size <= (wB.alloc (.cells #[.string ⟨c.name.toArray⟩, .string ⟨x.name.toArray⟩, .int .i64 x.ty.kind, .string ⟨x.ty.name.toArray⟩] 64)).drew.heap.size := Nat.le_trans HBA.out.size hD2.size; clear hD1 hD2 hD3 b0 b1 b2 b3 r0 r1 r2 r3 c4
         go_region_held3 (fun wz => wz.cell? ⟨g, o + m * 6, none⟩ = some (.string ⟨c.name.toArray⟩) /\ wz.cell? ⟨wr.heap.size, 0, none⟩ = some (.string ⟨x.name.toArray⟩) /\ wz.cell? ⟨wr.heap.size, 1, none⟩ = some (.int .i64 x.ty.kind) /\ wz.cell? ⟨wr.heap.size, 2, none⟩ = some (.string ⟨x.ty.name.toArray⟩)) (first | exact HS5.out | exact HS.out _ HD2.out | exact HS.out _ HD1.out)
          (first
            | (refine Ow.step_app rfl (.tmp 41) (.tmp 52) 29 rfl Tryz.underlying29 hj hj0 hj1 hj2 (by decide) shp_slt (by first | rfl | simp [Act.eval, Act.put]) (HOf.out _ HD2.out) (by first | rfl | simp [Act.eval, Act.put]) HR2.out (by simp; omega) (by decide) hbase ?_
               intro v5 w5 ho5 hg5; have hK := Ow.kx_grown (HOf.out _ HD2.out) hg5; have HB5 : Hid (Below w1.heap.size w1 w5) := hide ((HBA.out.trans (HD2.out.mono HBA.out.size)).trans (Ow.bel_grown (HOf.out _ HD2.out) hbase hg5)); have hx5 := hK.blk _ _ _ _ ((HD2.out.block _ hszb).trans HBx.out) (by decide)
               have HS5 : Hid (w5.cell? ⟨g, o + m * 6, none⟩ = some (.string ⟨c.name.toArray⟩) /\ w5.cell? ⟨wr.heap.size, 0, none⟩ = some (.string ⟨x.name.toArray⟩) /\ w5.cell? ⟨wr.heap.size, 1, none⟩ = some (.int .i64 x.ty.kind) /\ w5.cell? ⟨wr.heap.size, 2, none⟩ = some (.string ⟨x.ty.name.toArray⟩)) := hide ⟨by have := HN0.out w5 HB5.out; rwa [Nat.add_zero] at this, cell_box hx5 0, cell_box hx5 1, cell_box hx5 2⟩
               have HO5 : Hid (Ow.OwnX w5 w1.heap.size 64 4 SltX v5 (Ly.accS rs m c (j + 1))) := hide (by rw [HAc.out]; exact ho5)
               obtain ⟨xa, xc, hv5⟩ := HO5.out.shape; obtain ⟨n5, hn5⟩ : ∃ y, y = (Ly.accS rs m c (j + 1)).length := ⟨_, rfl⟩; rw [<- hn5] at hv5; have HN5 := hide hn5; clear hK hx5 ho5 hg5 hn5
               subst hv5)
            | fail)
         all_goals go_wp2_with fail
         all_goals go_roundw
         all_goals first
          | exact ⟨j + 1, xa, xc, n5, by omega, by go_num, rfl, HN5, HB5, HO5⟩
          | (simp [intOf]; omega)
     · have hjn2 : j = nf := by omega
       subst hjn2; have hnl : ¬ ((j : Int) < (j : Int)) := by omega
       have HEnd : Hid (Ly.accS rs m c j = Ly.backS rs m) := hide (Ly.accS_end HC.out (by rw [<- HNf.out]; exact Nat.le_refl _))
       go_wp2_with fail
       go_roundw
       case rel => exact ⟨m, (m : Int) - 1, la, lc, ln, by omega, rfl, by go_num, rfl, HB, hide (by rw [<- HEnd.out]; exact HO.out)⟩
       case measure => first | (simp [intOf]; done) | (simp [intOf]; omega)
theorem fx_nine (b : Nat) (w : World) (u0 u1 u2 u3 u4 u5 u6 u7 u8 : Value) : Fx (fun k => k = b) w (((((((((w.setCell ⟨b, 0, none⟩ (u0)).setCell ⟨b, 1, none⟩ (u1)).setCell ⟨b, 2, none⟩ (u2)).setCell ⟨b, 3, none⟩ (u3)).setCell ⟨b, 4, none⟩ (u4)).setCell ⟨b, 5, none⟩ (u5)).setCell ⟨b, 6, none⟩ (u6)).setCell ⟨b, 7, none⟩ (u7)).setCell ⟨b, 8, none⟩ (u8)) := by
 iterate 9 refine fx_put (S := fun k => k = b) ?_ rfl _ _
 exact Fx.refl _ _
namespace Ly
open Pp Hr
theorem light_cls {cs : List XCls} (h : Light cs) {c : XCls} (hc : c ∈ allL cs) : LtC c := by
 rcases List.mem_append.1 hc with hm | hm
 · revert c
   have : ∀ c ∈ base, c.fields = [] /\ c.methods = [] /\ c.ifaces = [] /\ c.name.length <= 60 /\ c.super.length <= 60 := by decide
   intro c _ hm; obtain ⟨h1, h2, h3, h4, h5⟩ := this c hm; exact ⟨⟨by rw [h1]; decide, by rw [h2]; decide, by rw [h3]; decide, h4, h5⟩, by rw [h1]; simp, by rw [h3]; simp, by rw [h2]; simp⟩
 · exact h.2 c hm
def mtsB (rs : List XCls) (i : Nat) (nm : Bs) : Bool := ((rs.take i).flatMap Net.ownM).any fun o => o.2.name == nm
theorem mtsB_zero (rs : List XCls) (nm : Bs) : mtsB rs 0 nm = false := by unfold mtsB; simp
theorem mtsB_step {rs : List XCls} {i : Nat} {nm : Bs} {c : XCls} (h : mtsB rs i nm = false) (hc : rs[i]? = some c) (ho : ownP c.methods nm = none) : mtsB rs (i + 1) nm = false := by
 unfold mtsB at *
 rw [List.take_add_one, hc, Option.toList_some, List.flatMap_append, List.any_append, h]; unfold ownP at ho; rw [List.findIdx?_eq_none_iff] at ho; simp only [List.flatMap_cons, List.flatMap_nil, List.append_nil, Bool.false_or]; rw [List.any_eq_false]; intro o hm; obtain ⟨m, hm', rfl⟩ := List.mem_map.1 hm; have := ho m hm'
 simpa using this
theorem mts_found {rs : List XCls} {i j : Nat} {nm : Bs} {c : XCls} {m : XMth} (h : mtsB rs i nm = false) (hc : rs[i]? = some c) (ho : ownP c.methods nm = some j) (hm : c.methods[j]? = some m) : (rs.flatMap Net.ownM).find? (fun o => o.2.name == nm) = some (c.name, m) := by
 unfold mtsB at h; have hlt := (List.getElem?_eq_some_iff.1 hc).1; have h1 : rs[i] = c := by simpa [List.getElem?_eq_getElem hlt] using hc
 have h2 : rs = rs.take i ++ c :: rs.drop (i + 1) := by rw [<- h1, <- List.drop_eq_getElem_cons hlt, List.take_append_drop]
 rw [h2, List.flatMap_append, List.flatMap_cons, List.find?_append]
 have h3 : ((rs.take i).flatMap Net.ownM).find? (fun o => o.2.name == nm) = none := by
  rw [List.find?_eq_none]; intro x hx; exact List.any_eq_false.1 h x hx
 rw [h3, Option.none_or, List.find?_append]
 have h4 : (Net.ownM c).find? (fun o => o.2.name == nm) = some (c.name, m) := by
  unfold ownP at ho; obtain ⟨hjl, hp, hq⟩ := List.findIdx?_eq_some_iff_getElem.1 ho; have hmj : c.methods[j] = m := by simpa [List.getElem?_eq_getElem hjl] using hm
  refine find_take (k := j) ?_ ?_ ?_
  · rw [List.any_eq_false]
    intro o ho; unfold Net.ownM at ho; rw [<- List.map_take] at ho; obtain ⟨m2, hm2, rfl⟩ := List.mem_map.1 ho; obtain ⟨q, hq1, hq2⟩ := List.mem_iff_getElem.1 hm2; rw [List.length_take] at hq1; rw [List.getElem_take] at hq2; have := hq q (by omega)
    rw [hq2] at this
    simpa using this
  · unfold Net.ownM
    rw [List.getElem?_map, hm]
    rfl
  · rw [hmj] at hp
    exact hp
 rw [h4]
 rfl
theorem mts_none {rs : List XCls} {i : Nat} {nm : Bs} (h : mtsB rs i nm = false) (hi : rs.length <= i) : (rs.flatMap Net.ownM).find? (fun o => o.2.name == nm) = none := by
 unfold mtsB at h; rw [List.take_of_length_le hi] at h; rw [List.find?_eq_none]; intro x hx; exact List.any_eq_false.1 h x hx
end Ly
def zeroM : List Value := [.string ⟨#[]⟩, .bool false, .bool false, .slice none 0 0, .int .i64 0, .string ⟨#[]⟩, .int .i64 0, .slice none 0 0, .slice none 0 0]
def FoundM (w' : World) (base : Nat) (r : Option (Pp.Bs × Pp.XMth)) (e : Ending) : Prop := ∃ zs, e = .returned (.tuple #[.string ⟨((r.map (·.1)).getD []).toArray⟩, .agg zs.toArray]) /\ (∀ o, r = some o -> Ow.MthO w' base o.2 zs) /\ (r = none -> zs = zeroM)
theorem FoundM.yes {w' : World} {base : Nat} {r : Option (Pp.Bs × Pp.XMth)} {o : Pp.Bs × Pp.XMth} {zs : List Value} (h : r = some o) (hp : Ow.MthO w' base o.2 zs) : FoundM w' base r (.returned (.tuple #[.string ⟨o.1.toArray⟩, .agg zs.toArray])) := by
 subst h; exact ⟨zs, rfl, fun o' e => by injection e with e; exact e ▸ hp, fun e => by cases e⟩
theorem FoundM.no {w' : World} {base : Nat} {r : Option (Pp.Bs × Pp.XMth)} (h : r = none) : FoundM w' base r (.returned (.tuple #[.string ⟨#[]⟩, .agg zeroM.toArray])) := by
 subst h; exact ⟨zeroM, rfl, fun o' e => by (cases e), fun _ => rfl⟩
theorem rmethod_any {cs : List Pp.XCls} {up : List (List Nat)} (he : Hr.errL cs = 0) (hg : Hr.growL (Hr.allL cs) (Hr.allL cs) = some up) (hl : Pp.Light cs) (v : Value) (n nm : Pp.Bs) (k : Nat) (hk : Hr.placeL (Hr.allL cs) n = some k) (w : World) (h : RowX w 6 (ClsX w) v (Hr.allL cs)) :
 Calls Tryz.prog 48 #[v, .string ⟨n.toArray⟩, .string ⟨nm.toArray⟩] w fun e w' => FoundM w' w.heap.size (Ly.methP (Ly.pnet (Hr.allL cs) up) k nm) e /\ Below w.heap.size w w' := by
 have hkl : k < (Hr.allL cs).length := by
  obtain ⟨c, h1, _⟩ := Hr.placeL_lt hk; exact (List.getElem?_eq_some_iff.1 h1).1
 have HRow := hide (fun wx (hb : Below w.heap.size w wx) => row_any he hg v n k hk w wx hb h); obtain ⟨rs, hrs⟩ : ∃ rs, rs = (Ly.rowP (Hr.allL cs) up k).map (Ly.clP (Hr.allL cs)) := ⟨_, rfl⟩; obtain ⟨res, hres⟩ : ∃ q, q = Ly.methP (Ly.pnet (Hr.allL cs) up) k nm := ⟨_, rfl⟩
 have HMt : Hid (res = (rs.flatMap Net.ownM).find? (fun o => o.2.name == nm)) := hide (by
  rw [hres]; unfold Ly.methP
  rw [<- (Ly.row_slots he hg _ k hkl (Nat.lt_succ_self _)).2, hrs, List.flatMap_map])
 have hrl : rs.length <= 19 := by rw [hrs, List.length_map]; exact Ly.row_len he hg hkl
 have HCf : Hid (∀ c ∈ rs, c.methods.length <= 6 /\ Pp.LtC c) := hide fun c hc => by
  rw [hrs] at hc; obtain ⟨q, hq, rfl⟩ := List.mem_map.1 hc; have hql := (Ly.row_lt he hg _ k hkl (Nat.lt_succ_self _)).2 q hq; exact ⟨(Ly.all_facts (Hr.err_zero he).1 (Ly.at_of hql)).2.2.2.2, Ly.light_cls hl (List.mem_of_getElem? (Ly.at_of hql))⟩
 rw [<- hrs] at HRow; rw [<- hres]; obtain ⟨va, vc, rfl, _⟩ := h.len; generalize (Hr.allL cs).length = nl at *
 clear h he hg hk hkl hrs hres hl; obtain ⟨nr, hnr⟩ : ∃ q, q = rs.length := ⟨_, rfl⟩; have HNr := hide hnr; have hnr1 : (nr : Int) <= 19 := by omega
 have HB0 := hide ((Below.refl w.heap.size w).alloc (Nat.le_refl _) (.cells #[.string ⟨#[]⟩, .bool false, .bool false, .slice none 0 0, .int .i64 0, .string ⟨#[]⟩, .int .i64 0, .slice none 0 0, .slice none 0 0] 39)); have HX0 := hide (heap_alloc_new w (.cells #[.string ⟨#[]⟩, .bool false, .bool false, .slice none 0 0, .int .i64 0, .string ⟨#[]⟩, .int .i64 0, .slice none 0 0, .slice none 0 0] 39)); go_enter Tryz.func48, Tryz.ntmps48; go_wp2_with fail; generalize w.alloc (.cells #[.string ⟨#[]⟩, .bool false, .bool false, .slice none 0 0, .int .i64 0, .string ⟨#[]⟩, .int .i64 0, .slice none 0 0, .slice none 0 0] 39) = wa at *
 refine (HRow.out wa HB0.out).mono ?_; rintro e w1 ⟨vr, rfl, ho1, hb1⟩; have HB1 := hide (HB0.out.trans (hb1.mono HB0.out.size)); have HBa := hide hb1; have hrow := ho1.row (shp_clsw w) fun _ _ h => h; have HOw := hide ho1; obtain ⟨ra, rc, rfl, _⟩ := hrow.len; rw [<- hnr] at hrow HOw ⊢; have HRr := hide hrow; have HX1 := hide ((hb1.block _ (Ow.lt_of_blk HX0.out)).trans HX0.out); clear HRow hb1 ho1 hrow hnr HX0; go_wp2_with fail
 go_loopw [9] (fun iv wr => ∃ i : Nat, i <= nr /\ iv = .int .i64 i /\ Hid (Below w1.heap.size w1 wr) /\ Hid (Ly.mtsB rs i nm = false)) (fun iv _ => nr - (intOf iv).toNat)
 case atStart => exact ⟨0, Nat.zero_le _, rfl, hide (Below.refl _ _), hide (Ly.mtsB_zero rs nm)⟩
 case round =>
  obtain ⟨i, hi, rfl, HB, HNo⟩ := hrel; have HX2 := hide ((HB.out.block _ (Ow.lt_of_blk HX1.out)).trans HX1.out); have HBw := hide (HB1.out.trans (HB.out.mono HB1.out.size)); by_cases hlt : i < nr
  · obtain ⟨c, hc⟩ : ∃ c, rs[i]? = some c := ⟨rs[i]'(by rw [<- HNr.out]; exact hlt), List.getElem?_eq_getElem _⟩
    obtain ⟨g, o, rfl, ys, wf, hcc⟩ := Ow.row_at' HRr.out hc; have HC := hide hc; have HWf := hide wf; have HCells := hide (fun wx (hb : Below w1.heap.size w1 wx) => hcc wx hb); obtain ⟨ia, ic, fa, fc, ma, mc, rfl, _, _, xm⟩ := cls_open wf; have HXm := hide xm; have hcl := HCf.out c (List.mem_of_getElem? hc); have HLt := hide hcl.2; have HOwn := hide (own_any c _ nm wr (HWf.out.on HBw.out) (by omega))
    have r0 := HCells.out wr HB.out 0 _ rfl; have r1 := HCells.out wr HB.out 1 _ rfl; have r2 := HCells.out wr HB.out 2 _ rfl; have r3 := HCells.out wr HB.out 3 _ rfl; have r4 := HCells.out wr HB.out 4 _ rfl; have r5 := HCells.out wr HB.out 5 _ rfl; rw [Nat.add_zero] at r0; have hmi : (i : Int) < (nr : Int) := by omega
    clear hc wf hcc xm hcl; go_wp2_with fail; refine HOwn.out.mono ?_; rintro e w2 ⟨rfl, hb2⟩; have HB2 := hide (HB.out.trans (hb2.mono HB.out.size)); have HX3 := hide ((hb2.block _ (Ow.lt_of_blk HX2.out)).trans HX2.out); clear HOwn hb2 r0 r1 r2 r3 r4 r5; cases hown : Ly.ownP c.methods nm with
    | none =>
      have HNo2 := hide (Ly.mtsB_step HNo.out HC.out hown); have hn0 : ¬ (0 : Int) <= -1 := by decide
      clear hown; simp only [Ly.ownI]; go_wp2_with fail
      go_roundw
      case rel => exact ⟨i + 1, by omega, by go_num, HB2, HNo2⟩
      case measure => simp [intOf]; omega
    | some j =>
      obtain ⟨hjl, _⟩ := List.findIdx?_eq_some_iff_getElem.1 hown; obtain ⟨m, hm⟩ : ∃ m, c.methods[j]? = some m := ⟨c.methods[j], List.getElem?_eq_getElem hjl⟩; have HFd : Hid (res = some (c.name, m)) := hide (HMt.out.trans (Ly.mts_found HNo.out HC.out hown hm)); obtain ⟨g2, o2, e2, ms, mf, hcm⟩ := Ow.row_at' HXm.out hm; subst e2
      have HG2 : Hid (g2 < w.heap.size) := hide (by
       obtain ⟨_, _, e, _, hx⟩ := HXm.out; injection e with e _ _
       rcases hx with hx | ⟨b3, o3, e3, hlt3, _⟩
       · rw [hx] at hm; cases hm
       · rw [e3] at e; injection e with e; injection e with e; rw [e]; exact hlt3)
      have HMf := hide mf; obtain ⟨vp, vc', vk, rfl, x1, x2, x3, _⟩ := mf; obtain ⟨ap, cp, rfl, _⟩ := x1.len; obtain ⟨ac, cc, rfl, _⟩ := x2.len; obtain ⟨ak, ck, rfl, _⟩ := x3.len; simp only [mthXL] at HMf hcm; have HTw := hide (fun wx (hb : Below w1.heap.size w1 wx) => TwinMethod_any m _ wx (HMf.out.on (HB1.out.trans (hb.mono HB1.out.size))) (HLt.out.2.2.2 m (List.mem_of_getElem? hm))); obtain ⟨nm', hnm⟩ : ∃ q, q = c.methods.length := ⟨_, rfl⟩; have hjn : j < nm' := by rw [hnm]; exact hjl
      have hjn' : (j : Int) < (nm' : Int) := by omega
      have hnm1 : nm' <= 6 := by rw [hnm]; exact (HCf.out c (List.mem_of_getElem? HC.out)).1
      have hnm2 : (nm' : Int) <= 6 := by omega
      have hj0' : (0 : Int) <= (j : Int) := by omega
      have HS : Hid (∀ wz, Below w1.heap.size w1 wz -> wz.cell? ⟨g, o + i * 6, none⟩ = some (.string ⟨c.name.toArray⟩) /\ wz.cell? ⟨g, o + i * 6 + 5, none⟩ = some (.slice (some ⟨g2, o2, none⟩) nm' mc) /\ wz.cell? ⟨g2, o2 + j * 9, none⟩ = some (.string ⟨m.name.toArray⟩) /\ wz.cell? ⟨g2, o2 + j * 9 + 1, none⟩ = some (.bool m.stat) /\ wz.cell? ⟨g2, o2 + j * 9 + 2, none⟩ = some (.bool m.abst) /\ wz.cell? ⟨g2, o2 + j * 9 + 3, none⟩ = some (.slice ap m.params.length cp) /\ wz.cell? ⟨g2, o2 + j * 9 + 4, none⟩ = some (.int .i64 m.ret.kind) /\ wz.cell? ⟨g2, o2 + j * 9 + 5, none⟩ = some (.string ⟨m.ret.name.toArray⟩) /\ wz.cell? ⟨g2, o2 + j * 9 + 6, none⟩ = some (.int .i64 m.locals) /\ wz.cell? ⟨g2, o2 + j * 9 + 7, none⟩ = some (.slice ac m.code.length cc) /\ wz.cell? ⟨g2, o2 + j * 9 + 8, none⟩ = some (.slice ak m.catches.length ck)) := hide fun wz hb => by
       have hcw := hcm wz (HB1.out.trans (hb.mono HB1.out.size)); rw [hnm]; exact ⟨by have := HCells.out wz hb 0 _ rfl; rwa [Nat.add_zero] at this, HCells.out wz hb 5 _ rfl, by have := hcw 0 _ rfl; rwa [Nat.add_zero] at this, hcw 1 _ rfl, hcw 2 _ rfl, hcw 3 _ rfl, hcw 4 _ rfl, hcw 5 _ rfl, hcw 6 _ rfl, hcw 7 _ rfl, hcw 8 _ rfl⟩
      have HDr : Hid (Below w1.heap.size w1 w2.drew) := hide (HB2.out.trans (Below.drew (Below.refl _ _))); have HX4 : Hid (w2.drew.heap[w.heap.size]? = some (.cells #[.string ⟨#[]⟩, .bool false, .bool false, .slice none 0 0, .int .i64 0, .string ⟨#[]⟩, .int .i64 0, .slice none 0 0, .slice none 0 0] 39 (0, 0))) := hide HX3.out
      have HGb : Hid (g ≠ w.heap.size /\ g2 ≠ w.heap.size) := hide ⟨by
       rintro rfl; obtain ⟨_, cc3, h3⟩ := own_lt HOw.out (k := w.heap.size) rfl; rw [HX1.out] at h3; injection h3 with h3; injection h3 with _ h3; exact absurd h3 (by decide), by
       exact Nat.ne_of_lt HG2.out⟩
      clear hown hm hcm x1 x2 x3 hnm HNo HX2 HX3; simp only [Ly.ownI]; go_wp2_with fail
      go_region_held3 (fun wz => wz.cell? ⟨g, o + i * 6, none⟩ = some (.string ⟨c.name.toArray⟩) /\ wz.cell? ⟨g, o + i * 6 + 5, none⟩ = some (.slice (some ⟨g2, o2, none⟩) nm' mc) /\ wz.cell? ⟨g2, o2 + j * 9, none⟩ = some (.string ⟨m.name.toArray⟩) /\ wz.cell? ⟨g2, o2 + j * 9 + 1, none⟩ = some (.bool m.stat) /\ wz.cell? ⟨g2, o2 + j * 9 + 2, none⟩ = some (.bool m.abst) /\ wz.cell? ⟨g2, o2 + j * 9 + 3, none⟩ = some (.slice ap m.params.length cp) /\ wz.cell? ⟨g2, o2 + j * 9 + 4, none⟩ = some (.int .i64 m.ret.kind) /\ wz.cell? ⟨g2, o2 + j * 9 + 5, none⟩ = some (.string ⟨m.ret.name.toArray⟩) /\ wz.cell? ⟨g2, o2 + j * 9 + 6, none⟩ = some (.int .i64 m.locals) /\ wz.cell? ⟨g2, o2 + j * 9 + 7, none⟩ = some (.slice ac m.code.length cc) /\ wz.cell? ⟨g2, o2 + j * 9 + 8, none⟩ = some (.slice ak m.catches.length ck)) (first | with_reducible exact HSst.out | with_reducible exact HS5.out | with_reducible exact HS.out _ HDr.out)
       (first
         | (go_at_call 57
            refine (HTw.out _ HDr.out).mono ?_; rintro e w5 ⟨ys', rfl, ho5, hb5⟩; have HO5 := hide ho5; obtain ⟨vp', vc2, vk', rfl, y1, y2, y3, _⟩ := ho5; obtain ⟨tp, dp, rfl⟩ := y1.shape; obtain ⟨tc, dc, rfl⟩ := y2.shape; obtain ⟨tk, dk, rfl⟩ := y3.shape; have hbo := (hb5.block _ (Ow.lt_of_blk HX4.out)).trans HX4.out; have HD5 := hide (HDr.out.trans (hb5.mono HDr.out.size)); have HS5 := hide (HS.out w5 HD5.out); have hFx := fx_nine w.heap.size w5 (.string ⟨m.name.toArray⟩) (.bool m.stat) (.bool m.abst) (.slice tp m.params.length dp) (.int .i64 m.ret.kind) (.string ⟨m.ret.name.toArray⟩) (.int .i64 m.locals) (.slice tc m.code.length dc) (.slice tk m.catches.length dk); have HFx := hide hFx
            have hgl : g < w5.heap.size := by
             have h1 := (own_lt HOw.out (k := g) rfl).1; exact Nat.lt_of_lt_of_le h1 HD5.out.size
            have hgl2 : g2 < w5.heap.size := by
             have h1 := HG2.out; have h2 := HB1.out.size; have h3 := HD5.out.size; omega
            have HSst : Hid ((((((((((w5.setCell ⟨w.heap.size, 0, none⟩ (.string ⟨m.name.toArray⟩)).setCell ⟨w.heap.size, 1, none⟩ (.bool m.stat)).setCell ⟨w.heap.size, 2, none⟩ (.bool m.abst)).setCell ⟨w.heap.size, 3, none⟩ (.slice tp m.params.length dp)).setCell ⟨w.heap.size, 4, none⟩ (.int .i64 m.ret.kind)).setCell ⟨w.heap.size, 5, none⟩ (.string ⟨m.ret.name.toArray⟩)).setCell ⟨w.heap.size, 6, none⟩ (.int .i64 m.locals)).setCell ⟨w.heap.size, 7, none⟩ (.slice tc m.code.length dc)).setCell ⟨w.heap.size, 8, none⟩ (.slice tk m.catches.length dk)).cell? ⟨g, o + i * 6, none⟩ = some (.string ⟨c.name.toArray⟩) /\ (((((((((w5.setCell ⟨w.heap.size, 0, none⟩ (.string ⟨m.name.toArray⟩)).setCell ⟨w.heap.size, 1, none⟩ (.bool m.stat)).setCell ⟨w.heap.size, 2, none⟩ (.bool m.abst)).setCell ⟨w.heap.size, 3, none⟩ (.slice tp m.params.length dp)).setCell ⟨w.heap.size, 4, none⟩ (.int .i64 m.ret.kind)).setCell ⟨w.heap.size, 5, none⟩ (.string ⟨m.ret.name.toArray⟩)).setCell ⟨w.heap.size, 6, none⟩ (.int .i64 m.locals)).setCell ⟨w.heap.size, 7, none⟩ (.slice tc m.code.length dc)).setCell ⟨w.heap.size, 8, none⟩ (.slice tk m.catches.length dk)).cell? ⟨g, o + i * 6 + 5, none⟩ = some (.slice (some ⟨g2, o2, none⟩) nm' mc) /\ (((((((((w5.setCell ⟨w.heap.size, 0, none⟩ (.string ⟨m.name.toArray⟩)).setCell ⟨w.heap.size, 1, none⟩ (.bool m.stat)).setCell ⟨w.heap.size, 2, none⟩ (.bool m.abst)).setCell ⟨w.heap.size, 3, none⟩ (.slice tp m.params.length dp)).setCell ⟨w.heap.size, 4, none⟩ (.int .i64 m.ret.kind)).setCell ⟨w.heap.size, 5, none⟩ (.string ⟨m.ret.name.toArray⟩)).setCell ⟨w.heap.size, 6, none⟩ (.int .i64 m.locals)).setCell ⟨w.heap.size, 7, none⟩ (.slice tc m.code.length dc)).setCell ⟨w.heap.size, 8, none⟩ (.slice tk m.catches.length dk)).cell? ⟨g2, o2 + j * 9, none⟩ = some (.string ⟨m.name.toArray⟩) /\ (((((((((w5.setCell ⟨w.heap.size, 0, none⟩ (.string ⟨m.name.toArray⟩)).setCell ⟨w.heap.size, 1, none⟩ (.bool m.stat)).setCell ⟨w.heap.size, 2, none⟩ (.bool m.abst)).setCell ⟨w.heap.size, 3, none⟩ (.slice tp m.params.length dp)).setCell ⟨w.heap.size, 4, none⟩ (.int .i64 m.ret.kind)).setCell ⟨w.heap.size, 5, none⟩ (.string ⟨m.ret.name.toArray⟩)).setCell ⟨w.heap.size, 6, none⟩ (.int .i64 m.locals)).setCell ⟨w.heap.size, 7, none⟩ (.slice tc m.code.length dc)).setCell ⟨w.heap.size, 8, none⟩ (.slice tk m.catches.length dk)).cell? ⟨g2, o2 + j * 9 + 1, none⟩ = some (.bool m.stat) /\ (((((((((w5.setCell ⟨w.heap.size, 0, none⟩ (.string ⟨m.name.toArray⟩)).setCell ⟨w.heap.size, 1, none⟩ (.bool m.stat)).setCell ⟨w.heap.size, 2, none⟩ (.bool m.abst)).setCell ⟨w.heap.size, 3, none⟩ (.slice tp m.params.length dp)).setCell ⟨w.heap.size, 4, none⟩ (.int .i64 m.ret.kind)).setCell ⟨w.heap.size, 5, none⟩ (.string ⟨m.ret.name.toArray⟩)).setCell ⟨w.heap.size, 6, none⟩ (.int .i64 m.locals)).setCell ⟨w.heap.size, 7, none⟩ (.slice tc m.code.length dc)).setCell ⟨w.heap.size, 8, none⟩ (.slice tk m.catches.length dk)).cell? ⟨g2, o2 + j * 9 + 2, none⟩ = some (.bool m.abst) /\ (((((((((w5.setCell ⟨w.heap.size, 0, none⟩ (.string ⟨m.name.toArray⟩)).setCell ⟨w.heap.size, 1, none⟩ (.bool m.stat)).setCell ⟨w.heap.size, 2, none⟩ (.bool m.abst)).setCell ⟨w.heap.size, 3, none⟩ (.slice tp m.params.length dp)).setCell ⟨w.heap.size, 4, none⟩ (.int .i64 m.ret.kind)).setCell ⟨w.heap.size, 5, none⟩ (.string ⟨m.ret.name.toArray⟩)).setCell ⟨w.heap.size, 6, none⟩ (.int .i64 m.locals)).setCell ⟨w.heap.size, 7, none⟩ (.slice tc m.code.length dc)).setCell ⟨w.heap.size, 8, none⟩ (.slice tk m.catches.length dk)).cell? ⟨g2, o2 + j * 9 + 3, none⟩ = some (.slice ap m.params.length cp) /\ (((((((((w5.setCell ⟨w.heap.size, 0, none⟩ (.string ⟨m.name.toArray⟩)).setCell ⟨w.heap.size, 1, none⟩ (.bool m.stat)).setCell ⟨w.heap.size, 2, none⟩ (.bool m.abst)).setCell ⟨w.heap.size, 3, none⟩ (.slice tp m.params.length dp)).setCell ⟨w.heap.size, 4, none⟩ (.int .i64 m.ret.kind)).setCell ⟨w.heap.size, 5, none⟩ (.string ⟨m.ret.name.toArray⟩)).setCell ⟨w.heap.size, 6, none⟩ (.int .i64 m.locals)).setCell ⟨w.heap.size, 7, none⟩ (.slice tc m.code.length dc)).setCell ⟨w.heap.size, 8, none⟩ (.slice tk m.catches.length dk)).cell? ⟨g2, o2 + j * 9 + 4, none⟩ = some (.int .i64 m.ret.kind) /\ (((((((((w5.setCell ⟨w.heap.size, 0, none⟩ (.string ⟨m.name.toArray⟩)).setCell ⟨w.heap.size, 1, none⟩ (.bool m.stat)).setCell ⟨w.heap.size, 2, none⟩ (.bool m.abst)).setCell ⟨w.heap.size, 3, none⟩ (.slice tp m.params.length dp)).setCell ⟨w.heap.size, 4, none⟩ (.int .i64 m.ret.kind)).setCell ⟨w.heap.size, 5, none⟩ (.string ⟨m.ret.name.toArray⟩)).setCell ⟨w.heap.size, 6, none⟩ (.int .i64 m.locals)).setCell ⟨w.heap.size, 7, none⟩ (.slice tc m.code.length dc)).setCell ⟨w.heap.size, 8, none⟩ (.slice tk m.catches.length dk)).cell? ⟨g2, o2 + j * 9 + 5, none⟩ = some (.string ⟨m.ret.name.toArray⟩) /\ (((((((((w5.setCell ⟨w.heap.size, 0, none⟩ (.string ⟨m.name.toArray⟩)).setCell ⟨w.heap.size, 1, none⟩ (.bool m.stat)).setCell ⟨w.heap.size, 2, none⟩ (.bool m.abst)).setCell ⟨w.heap.size, 3, none⟩ (.slice tp m.params.length dp)).setCell ⟨w.heap.size, 4, none⟩ (.int .i64 m.ret.kind)).setCell ⟨w.heap.size, 5, none⟩ (.string ⟨m.ret.name.toArray⟩)).setCell ⟨w.heap.size, 6, none⟩ (.int .i64 m.locals)).setCell ⟨w.heap.size, 7, none⟩ (.slice tc m.code.length dc)).setCell ⟨w.heap.size, 8, none⟩ (.slice tk m.catches.length dk)).cell? ⟨g2, o2 + j * 9 + 6, none⟩ = some (.int .i64 m.locals) /\ (((((((((w5.setCell ⟨w.heap.size, 0, none⟩ (.string ⟨m.name.toArray⟩)).setCell ⟨w.heap.size, 1, none⟩ (.bool m.stat)).setCell ⟨w.heap.size, 2, none⟩ (.bool m.abst)).setCell ⟨w.heap.size, 3, none⟩ (.slice tp m.params.length dp)).setCell ⟨w.heap.size, 4, none⟩ (.int .i64 m.ret.kind)).setCell ⟨w.heap.size, 5, none⟩ (.string ⟨m.ret.name.toArray⟩)).setCell ⟨w.heap.size, 6, none⟩ (.int .i64 m.locals)).setCell ⟨w.heap.size, 7, none⟩ (.slice tc m.code.length dc)).setCell ⟨w.heap.size, 8, none⟩ (.slice tk m.catches.length dk)).cell? ⟨g2, o2 + j * 9 + 7, none⟩ = some (.slice ac m.code.length cc) /\ (((((((((w5.setCell ⟨w.heap.size, 0, none⟩ (.string ⟨m.name.toArray⟩)).setCell ⟨w.heap.size, 1, none⟩ (.bool m.stat)).setCell ⟨w.heap.size, 2, none⟩ (.bool m.abst)).setCell ⟨w.heap.size, 3, none⟩ (.slice tp m.params.length dp)).setCell ⟨w.heap.size, 4, none⟩ (.int .i64 m.ret.kind)).setCell ⟨w.heap.size, 5, none⟩ (.string ⟨m.ret.name.toArray⟩)).setCell ⟨w.heap.size, 6, none⟩ (.int .i64 m.locals)).setCell ⟨w.heap.size, 7, none⟩ (.slice tc m.code.length dc)).setCell ⟨w.heap.size, 8, none⟩ (.slice tk m.catches.length dk)).cell? ⟨g2, o2 + j * 9 + 8, none⟩ = some (.slice ak m.catches.length ck)) := hide ⟨(cell_of_blk (hFx.blk g hgl HGb.out.1)).trans HS5.out.1, (cell_of_blk (hFx.blk g hgl HGb.out.1)).trans HS5.out.2.1, (cell_of_blk (hFx.blk g2 hgl2 HGb.out.2)).trans HS5.out.2.2.1, (cell_of_blk (hFx.blk g2 hgl2 HGb.out.2)).trans HS5.out.2.2.2.1, (cell_of_blk (hFx.blk g2 hgl2 HGb.out.2)).trans HS5.out.2.2.2.2.1, (cell_of_blk (hFx.blk g2 hgl2 HGb.out.2)).trans HS5.out.2.2.2.2.2.1, (cell_of_blk (hFx.blk g2 hgl2 HGb.out.2)).trans HS5.out.2.2.2.2.2.2.1, (cell_of_blk (hFx.blk g2 hgl2 HGb.out.2)).trans HS5.out.2.2.2.2.2.2.2.1, (cell_of_blk (hFx.blk g2 hgl2 HGb.out.2)).trans HS5.out.2.2.2.2.2.2.2.2.1, (cell_of_blk (hFx.blk g2 hgl2 HGb.out.2)).trans HS5.out.2.2.2.2.2.2.2.2.2.1, (cell_of_blk (hFx.blk g2 hgl2 HGb.out.2)).trans HS5.out.2.2.2.2.2.2.2.2.2.2⟩
            have HKx : Hid (Ow.Kx 39 w5 (((((((((w5.setCell ⟨w.heap.size, 0, none⟩ (.string ⟨m.name.toArray⟩)).setCell ⟨w.heap.size, 1, none⟩ (.bool m.stat)).setCell ⟨w.heap.size, 2, none⟩ (.bool m.abst)).setCell ⟨w.heap.size, 3, none⟩ (.slice tp m.params.length dp)).setCell ⟨w.heap.size, 4, none⟩ (.int .i64 m.ret.kind)).setCell ⟨w.heap.size, 5, none⟩ (.string ⟨m.ret.name.toArray⟩)).setCell ⟨w.heap.size, 6, none⟩ (.int .i64 m.locals)).setCell ⟨w.heap.size, 7, none⟩ (.slice tc m.code.length dc)).setCell ⟨w.heap.size, 8, none⟩ (.slice tk m.catches.length dk))) := hide ⟨hFx.size, fun k c t f hk ht => (hFx.blk k (Ow.lt_of_blk hk) (fun e => by
             rw [e, hbo] at hk; injection hk with hk; injection hk with _ hk
             exact ht hk.symm)).trans hk⟩
            have HBd : Hid (Below w.heap.size w (((((((((w5.setCell ⟨w.heap.size, 0, none⟩ (.string ⟨m.name.toArray⟩)).setCell ⟨w.heap.size, 1, none⟩ (.bool m.stat)).setCell ⟨w.heap.size, 2, none⟩ (.bool m.abst)).setCell ⟨w.heap.size, 3, none⟩ (.slice tp m.params.length dp)).setCell ⟨w.heap.size, 4, none⟩ (.int .i64 m.ret.kind)).setCell ⟨w.heap.size, 5, none⟩ (.string ⟨m.ret.name.toArray⟩)).setCell ⟨w.heap.size, 6, none⟩ (.int .i64 m.locals)).setCell ⟨w.heap.size, 7, none⟩ (.slice tc m.code.length dc)).setCell ⟨w.heap.size, 8, none⟩ (.slice tk m.catches.length dk))) := hide (by
             iterate 9 refine put_at ?_ _ _
             exact HB1.out.trans (HD5.out.mono HB1.out.size))
            have f0 := Ow.fzl_blk hbo 0; have q0 := cell_box hbo 0; have f1 := Ow.fzl_blk hbo 1; have q1 := cell_box hbo 1; have f2 := Ow.fzl_blk hbo 2; have q2 := cell_box hbo 2; have f3 := Ow.fzl_blk hbo 3; have q3 := cell_box hbo 3; have f4 := Ow.fzl_blk hbo 4; have q4 := cell_box hbo 4; have f5 := Ow.fzl_blk hbo 5; have q5 := cell_box hbo 5; have f6 := Ow.fzl_blk hbo 6; have q6 := cell_box hbo 6; have f7 := Ow.fzl_blk hbo 7; have q7 := cell_box hbo 7; have f8 := Ow.fzl_blk hbo 8; have q8 := cell_box hbo 8; clear hbo hFx hgl hgl2 hb5 y1 y2 y3
            simp only [mthXL] at HO5 ⊢)
         | fail)
      all_goals go_wp2_with fail
      all_goals refine bodyPost_ret (v := .tuple #[.string ⟨c.name.toArray⟩, .agg #[.string ⟨m.name.toArray⟩, .bool m.stat, .bool m.abst, .slice tp m.params.length dp, .int .i64 m.ret.kind, .string ⟨m.ret.name.toArray⟩, .int .i64 m.locals, .slice tc m.code.length dc, .slice tk m.catches.length dk]]) (by simp [results, Tryz.results48, go_sem, *]) rfl ?_
      all_goals exact ⟨FoundM.yes HFd.out ((HO5.out.kx HKx.out (by decide) (by decide) (by decide)).on (Below.refl _ _) (Nat.le_trans HB1.out.size HDr.out.size)), HBd.out⟩
  · have HNone : Hid (res = none) := hide (HMt.out.trans (Ly.mts_none HNo.out (by rw [<- HNr.out]; omega)))
    have hnl : ¬ ((i : Int) < (nr : Int)) := by omega
    clear HNo; have f0 := Ow.fzl_blk HX2.out 0; have q0 := cell_box HX2.out 0; have f1 := Ow.fzl_blk HX2.out 1; have q1 := cell_box HX2.out 1; have f2 := Ow.fzl_blk HX2.out 2; have q2 := cell_box HX2.out 2; have f3 := Ow.fzl_blk HX2.out 3; have q3 := cell_box HX2.out 3; have f4 := Ow.fzl_blk HX2.out 4; have q4 := cell_box HX2.out 4; have f5 := Ow.fzl_blk HX2.out 5; have q5 := cell_box HX2.out 5; have f6 := Ow.fzl_blk HX2.out 6; have q6 := cell_box HX2.out 6; have f7 := Ow.fzl_blk HX2.out 7; have q7 := cell_box HX2.out 7; have f8 := Ow.fzl_blk HX2.out 8; have q8 := cell_box HX2.out 8; go_wp2_with fail; refine bodyPost_ret (v := .tuple #[.string ⟨#[]⟩, .agg zeroM.toArray]) (by simp [results, Tryz.results48, go_sem, zeroM, *]) rfl ?_
    refine ⟨FoundM.no HNone.out, ?_⟩
    iterate 9 refine put_at ?_ _ _
    exact HBw.out
theorem row_off {α : Type} {w w' : World} {b0 sz : Nat} {P : α -> List Value -> Prop} {v : Value} {l : List α} (h : RowX w sz P v l) (hf : Fx (fun k => k = b0) w w') (hn : ∀ x ∈ l, ∀ ys o, P x ys -> (∀ (j : Nat) (u : Value), ys[j]? = some u -> w.cell? ⟨b0, o + j, none⟩ = some u) -> False) : RowX w' sz P v l := by
 obtain ⟨a, c, rfl, hc, h⟩ := h; refine ⟨a, c, rfl, hc, ?_⟩
 rcases h with h | ⟨b, o, rfl, hlt, hx⟩
 · exact .inl h
 · by_cases hb : b = b0
   · subst hb
     cases l with
     | nil => exact .inl rfl
     | cons x l =>
       obtain ⟨ys, h1, h2⟩ := hx 0 x rfl; exact (hn x (by simp) ys (o + 0 * sz) h1 h2).elim
   · refine .inr ⟨b, o, rfl, Nat.lt_of_lt_of_le hlt hf.size, fun k x hk => ?_⟩
     obtain ⟨ys, h1, h2⟩ := hx k x hk; exact ⟨ys, h1, fun j u hj => (cell_of_blk (hf.blk b hlt hb)).trans (h2 j u hj)⟩
theorem zero_at {o : Nat} {u : Value} (h : zeroM[o]? = some u) : o = 0 /\ u = .string ⟨#[]⟩ \/ o = 1 /\ u = .bool false \/ o = 2 /\ u = .bool false \/ o = 3 /\ u = .slice none 0 0 \/ o = 4 /\ u = .int .i64 0 \/ o = 5 /\ u = .string ⟨#[]⟩ \/ o = 6 /\ u = .int .i64 0 \/ o = 7 /\ u = .slice none 0 0 \/ o = 8 /\ u = .slice none 0 0 := by
 have hl : o < 9 := (List.getElem?_eq_some_iff.1 h).1; have : o = 0 \/ o = 1 \/ o = 2 \/ o = 3 \/ o = 4 \/ o = 5 \/ o = 6 \/ o = 7 \/ o = 8 := by omega
 rcases this with rfl | rfl | rfl | rfl | rfl | rfl | rfl | rfl | rfl <;> cases h <;> simp
theorem mth_off {w w' : World} {b0 : Nat} {t : TypeId} {m : Pp.XMth} {zs : List Value} (hX : w.heap[b0]? = some (.cells zeroM.toArray t (0, 0))) (hf : Fx (fun k => k = b0) w w') (h : MthX w m zs) (hk : ∀ q ∈ m.params, q.kind ≠ 0) : MthX w' m zs := by
 have hz : ∀ (o : Nat) (u : Value), w.cell? ⟨b0, o, none⟩ = some u -> zeroM[o]? = some u := fun o u hu => by
  rw [cell_box hX] at hu
  simpa using hu
 obtain ⟨vp, vc, vk, rfl, x1, x2, x3, x4⟩ := h; refine ⟨vp, vc, vk, rfl, row_off x1 hf ?_, row_off x2 hf ?_, row_off x3 hf ?_, x4⟩
 · rintro x hx ys o ⟨rfl, _⟩ hc
   have h0 := zero_at (hz _ _ (hc 0 _ rfl)); have h1 := zero_at (hz _ _ (hc 1 _ rfl)); simp at h0 h1
   rcases h0 with ⟨e0, h⟩ | ⟨e0, h⟩
   · exact hk x hx h
   · omega
 · rintro x hx ys o ⟨rfl, _⟩ hc
   have h0 := zero_at (hz _ _ (hc 0 _ rfl)); have h1 := zero_at (hz _ _ (hc 1 _ rfl)); simp at h0 h1; omega
 · rintro x hx ys o ⟨rfl, _⟩ hc
   have h1 := zero_at (hz _ _ (hc 1 _ rfl)); have h2 := zero_at (hz _ _ (hc 2 _ rfl)); simp at h1 h2; omega
namespace Ly
open Pp Hr
theorem type_kind {t : Ty} (h : typeB t = true) : t.kind ≠ 0 := by
 intro e; unfold typeB at h; rw [e] at h; simp at h
theorem meth_kinds {cs : List XCls} {up : List (List Nat)} {bs : List Nat} (he : errL cs = 0) (hg : growL (allL cs) (allL cs) = some up) (hn : bs.Nodup) (hl : bs.length = (allL cs).length) {b : Nat} (hb : b ∈ bs) {nm : Bs} {o : Bs × XMth} (ho : methP (bnet (allL cs) up bs) b nm = some o) : ∀ q ∈ o.2.params, q.kind ≠ 0 := by
 have hG := (bnet_img (l := allL cs) up hn hl).good (pnet_good he hg); have hm : o ∈ (bnet (allL cs) up bs).mt b := List.mem_of_find?_eq_some ho; obtain ⟨q, hq, hqm⟩ := mtF_of hG _ b hb o hm; obtain ⟨j, hj, rfl⟩ := ((bnet_img (l := allL cs) up hn hl).T q).1 hq; rw [(bnet_img (l := allL cs) up hn hl).cl j hj] at hqm; have hp := (err_zero he).1
 rcases List.mem_append.1 (List.mem_of_getElem? (at_of hj)) with hc | hc
 · have h0 : ∀ c ∈ base, c.methods = [] := by decide
   have h1 : (clP (allL cs) j).methods = [] := h0 _ hc; have h2 : o.2 ∈ (clP (allL cs) j).methods := hqm; rw [h1] at h2; cases h2
 · have h1 := (cls_parts (prog_all hp hc)).2.2.2.2.2.2 o.2 hqm
   simp only [mthB, Bool.and_eq_true, eachB_iff] at h1; exact fun q hq => type_kind (h1.2.1.2 q hq)
end Ly
def Mv (zs : List Value) : Prop := ∃ (n1 : ByteArray) (b2 b3 : Bool) (a4 : Option Addr) (m4 c4 : Nat) (k5 : Int) (s6 : ByteArray) (l7 : Int) (a8 : Option Addr) (m8 c8 : Nat) (a9 : Option Addr) (m9 c9 : Nat), zs = [.string n1, .bool b2, .bool b3, .slice a4 m4 c4, .int .i64 k5, .string s6, .int .i64 l7, .slice a8 m8 c8, .slice a9 m9 c9]
theorem Mv.of {w : World} {m : Pp.XMth} {zs : List Value} (h : MthX w m zs) : Mv zs := by
 obtain ⟨vp, vc, vk, rfl, x1, x2, x3, _⟩ := h; obtain ⟨ap, cp, rfl, _⟩ := x1.len; obtain ⟨ac, cc, rfl, _⟩ := x2.len; obtain ⟨ak, ck, rfl, _⟩ := x3.len; exact ⟨_, _, _, _, _, _, _, _, _, _, _, _, _, _, _, rfl⟩
theorem Mv.zero : Mv zeroM := ⟨_, _, _, _, _, _, _, _, _, _, _, _, _, _, _, rfl⟩
theorem FoundO.open {w0 : World} {r : Option (Pp.Bs × Pp.XMth)} {e : Ending} (h : FoundO w0 r e) : ∃ ms, Mv ms /\ e = .returned (.tuple #[.agg (.string ⟨((r.map (·.1)).getD []).toArray⟩ :: ms).toArray, .bool r.isSome]) /\ (∀ o, r = some o -> MthX w0 o.2 ms) /\ (r = none -> ms = zeroM) := by
 obtain ⟨zs, rfl, h1, h2⟩ := h; cases r with
 | none =>
   have := h2 rfl; subst this; exact ⟨zeroM, Mv.zero, rfl, (fun o e => by cases e), fun _ => rfl⟩
 | some o =>
   obtain ⟨ms, rfl, hm⟩ := h1 o rfl; exact ⟨ms, Mv.of hm, rfl, fun o' e => by cases e; exact hm, fun e => by cases e⟩
theorem put_up {b c : Nat} {w x : World} (h : Below b w x) (hc : b <= c) (k : Nat) (u : Value) : Below b w (x.setCell ⟨c, k, none⟩ u) := h.setCell (p := ⟨c, k, none⟩) hc u
def FoundL (w' : World) (r : Option (Pp.Bs × Pp.XMth)) (e : Ending) : Prop := ∃ ms, Mv ms /\ e = .returned (.tuple #[.string ⟨((r.map (·.1)).getD []).toArray⟩, .agg ms.toArray, .bool r.isSome]) /\ (∀ o, r = some o -> MthX w' o.2 ms) /\ (r = none -> ms = zeroM)
theorem FoundL.no {w' : World} {r : Option (Pp.Bs × Pp.XMth)} (h : r = none) : FoundL w' r (.returned (.tuple #[.string ⟨#[]⟩, .agg zeroM.toArray, .bool false])) := by
 subst h; exact ⟨zeroM, Mv.zero, rfl, (fun o e => by cases e), fun _ => rfl⟩
namespace Ly
open Pp Hr
def methQ (cs : List XCls) (n nm : Bs) : Option (Bs × XMth) := if layE cs = 0 then (match classQ cs n, growL (allL cs) (allL cs) with
 | some k, some up => methP (pnet (allL cs) up) k nm
 | _, _ => none) else none
end Ly
end Go.Proofs.YtjlappamkfjlkaaGreatDoor

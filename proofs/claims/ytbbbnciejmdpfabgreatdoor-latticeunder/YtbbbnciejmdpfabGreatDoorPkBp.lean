/- What the laws of this seat lean on: 1 texts. -/
import Derived.Test.YtbbbnciejmdpfabGreatDoorPkBo
import Derived.Test.YtbbbnciejmdpfabGreatDoorPkAd
set_option maxRecDepth 100000
set_option maxHeartbeats 64000000
set_option linter.unusedVariables false
set_option linter.unusedSimpArgs false
namespace Go.Proofs.YtbbbnciejmdpfabGreatDoor
open Go.RowKit
theorem fx_nine (b : Nat) (w : World) (u0 u1 u2 u3 u4 u5 u6 u7 u8 : Value) : Fx (fun k => k = b) w (((((((((w.setCell ⟨b, 0, none⟩ (u0)).setCell ⟨b, 1, none⟩ (u1)).setCell ⟨b, 2, none⟩ (u2)).setCell ⟨b, 3, none⟩ (u3)).setCell ⟨b, 4, none⟩ (u4)).setCell ⟨b, 5, none⟩ (u5)).setCell ⟨b, 6, none⟩ (u6)).setCell ⟨b, 7, none⟩ (u7)).setCell ⟨b, 8, none⟩ (u8)) := by
 iterate 9 refine fx_put (S := fun k => k = b) ?_ rfl _ _
 exact Fx.refl _ _
namespace Ly
open Pp Hr
theorem light_cls {cs : List XCls} (h : Light cs) {c : XCls} (hc : c ∈ allL cs) : LtC c := by
 rcases List.mem_append.1 hc with hm | hm
 · revert c
   have : ∀ c ∈ base, c.fields = [] /\ c.methods = [] /\ c.ifaces = [] /\ c.name.length <= 60 /\ c.super.length <= 60 := by decide
   intro c _ hm; obtain ⟨h1, h2, h3, h4, h5⟩ := this c hm; exact ⟨⟨by rw [h1]; decide, by rw [h2]; decide, by rw [h3]; decide, h4, h5⟩, by rw [h1]; simp, by rw [h3]; simp, by rw [h2]; simp⟩
 · exact h.2 c hm
def mtsB (rs : List XCls) (i : Nat) (nm : Bs) : Bool := ((rs.take i).flatMap Net.ownM).any fun o => o.2.name == nm
theorem mtsB_zero (rs : List XCls) (nm : Bs) : mtsB rs 0 nm = false := by unfold mtsB; simp
theorem mtsB_step {rs : List XCls} {i : Nat} {nm : Bs} {c : XCls} (h : mtsB rs i nm = false) (hc : rs[i]? = some c) (ho : ownP c.methods nm = none) : mtsB rs (i + 1) nm = false := by
 unfold mtsB at *
 rw [List.take_add_one, hc, Option.toList_some, List.flatMap_append, List.any_append, h]; unfold ownP at ho; rw [List.findIdx?_eq_none_iff] at ho; simp only [List.flatMap_cons, List.flatMap_nil, List.append_nil, Bool.false_or]; rw [List.any_eq_false]; intro o hm; obtain ⟨m, hm', rfl⟩ := List.mem_map.1 hm; have := ho m hm'
 simpa using this
theorem mts_found {rs : List XCls} {i j : Nat} {nm : Bs} {c : XCls} {m : XMth} (h : mtsB rs i nm = false) (hc : rs[i]? = some c) (ho : ownP c.methods nm = some j) (hm : c.methods[j]? = some m) : (rs.flatMap Net.ownM).find? (fun o => o.2.name == nm) = some (c.name, m) := by
 unfold mtsB at h; have hlt := (List.getElem?_eq_some_iff.1 hc).1; have h1 : rs[i] = c := by simpa [List.getElem?_eq_getElem hlt] using hc
 have h2 : rs = rs.take i ++ c :: rs.drop (i + 1) := by rw [<- h1, <- List.drop_eq_getElem_cons hlt, List.take_append_drop]
 rw [h2, List.flatMap_append, List.flatMap_cons, List.find?_append]
 have h3 : ((rs.take i).flatMap Net.ownM).find? (fun o => o.2.name == nm) = none := by
  rw [List.find?_eq_none]; intro x hx; exact List.any_eq_false.1 h x hx
 rw [h3, Option.none_or, List.find?_append]
 have h4 : (Net.ownM c).find? (fun o => o.2.name == nm) = some (c.name, m) := by
  unfold ownP at ho; obtain ⟨hjl, hp, hq⟩ := List.findIdx?_eq_some_iff_getElem.1 ho; have hmj : c.methods[j] = m := by simpa [List.getElem?_eq_getElem hjl] using hm
  refine find_take (k := j) ?_ ?_ ?_
  · rw [List.any_eq_false]
    intro o ho; unfold Net.ownM at ho; rw [<- List.map_take] at ho; obtain ⟨m2, hm2, rfl⟩ := List.mem_map.1 ho; obtain ⟨q, hq1, hq2⟩ := List.mem_iff_getElem.1 hm2; rw [List.length_take] at hq1; rw [List.getElem_take] at hq2; have := hq q (by omega)
    rw [hq2] at this
    simpa using this
  · unfold Net.ownM
    rw [List.getElem?_map, hm]
    rfl
  · rw [hmj] at hp
    exact hp
 rw [h4]
 rfl
theorem mts_none {rs : List XCls} {i : Nat} {nm : Bs} (h : mtsB rs i nm = false) (hi : rs.length <= i) : (rs.flatMap Net.ownM).find? (fun o => o.2.name == nm) = none := by
 unfold mtsB at h; rw [List.take_of_length_le hi] at h; rw [List.find?_eq_none]; intro x hx; exact List.any_eq_false.1 h x hx
end Ly
def zeroM : List Value := [.string ⟨#[]⟩, .bool false, .bool false, .slice none 0 0, .int .i64 0, .string ⟨#[]⟩, .int .i64 0, .slice none 0 0, .slice none 0 0]
def FoundM (w' : World) (base : Nat) (r : Option (Pp.Bs × Pp.XMth)) (e : Ending) : Prop := ∃ zs, e = .returned (.tuple #[.string ⟨((r.map (·.1)).getD []).toArray⟩, .agg zs.toArray]) /\ (∀ o, r = some o -> Ow.MthO w' base o.2 zs) /\ (r = none -> zs = zeroM)
theorem FoundM.yes {w' : World} {base : Nat} {r : Option (Pp.Bs × Pp.XMth)} {o : Pp.Bs × Pp.XMth} {zs : List Value} (h : r = some o) (hp : Ow.MthO w' base o.2 zs) : FoundM w' base r (.returned (.tuple #[.string ⟨o.1.toArray⟩, .agg zs.toArray])) := by
 subst h; exact ⟨zs, rfl, fun o' e => by injection e with e; exact e ▸ hp, fun e => by cases e⟩
theorem FoundM.no {w' : World} {base : Nat} {r : Option (Pp.Bs × Pp.XMth)} (h : r = none) : FoundM w' base r (.returned (.tuple #[.string ⟨#[]⟩, .agg zeroM.toArray])) := by
 subst h; exact ⟨zeroM, rfl, fun o' e => by (cases e), fun _ => rfl⟩
theorem rmethod_any {cs : List Pp.XCls} {up : List (List Nat)} (he : Hr.errL cs = 0) (hg : Hr.growL (Hr.allL cs) (Hr.allL cs) = some up) (hl : Pp.Light cs) (v : Value) (n nm : Pp.Bs) (k : Nat) (hk : Hr.placeL (Hr.allL cs) n = some k) (w : World) (h : RowX w 6 (ClsX w) v (Hr.allL cs)) :
 Calls Tryz.prog 36 #[v, .string ⟨n.toArray⟩, .string ⟨nm.toArray⟩] w fun e w' => FoundM w' w.heap.size (Ly.methP (Ly.pnet (Hr.allL cs) up) k nm) e /\ Below w.heap.size w w' := by
 have hkl : k < (Hr.allL cs).length := by
  obtain ⟨c, h1, _⟩ := Hr.placeL_lt hk; exact (List.getElem?_eq_some_iff.1 h1).1
 have HRow := hide (fun wx (hb : Below w.heap.size w wx) => row_any he hg v n k hk w wx hb h); obtain ⟨rs, hrs⟩ : ∃ rs, rs = (Ly.rowP (Hr.allL cs) up k).map (Ly.clP (Hr.allL cs)) := ⟨_, rfl⟩; obtain ⟨res, hres⟩ : ∃ q, q = Ly.methP (Ly.pnet (Hr.allL cs) up) k nm := ⟨_, rfl⟩
 have HMt : Hid (res = (rs.flatMap Net.ownM).find? (fun o => o.2.name == nm)) := hide (by
  rw [hres]; unfold Ly.methP
  rw [<- (Ly.row_slots he hg _ k hkl (Nat.lt_succ_self _)).2, hrs, List.flatMap_map])
 have hrl : rs.length <= 19 := by rw [hrs, List.length_map]; exact Ly.row_len he hg hkl
 have HCf : Hid (∀ c ∈ rs, c.methods.length <= 6 /\ Pp.LtC c) := hide fun c hc => by
  rw [hrs] at hc; obtain ⟨q, hq, rfl⟩ := List.mem_map.1 hc; have hql := (Ly.row_lt he hg _ k hkl (Nat.lt_succ_self _)).2 q hq; exact ⟨(Ly.all_facts (Hr.err_zero he).1 (Ly.at_of hql)).2.2.2.2, Ly.light_cls hl (List.mem_of_getElem? (Ly.at_of hql))⟩
 rw [<- hrs] at HRow; rw [<- hres]; obtain ⟨va, vc, rfl, _⟩ := h.len; generalize (Hr.allL cs).length = nl at *
 clear h he hg hk hkl hrs hres hl; obtain ⟨nr, hnr⟩ : ∃ q, q = rs.length := ⟨_, rfl⟩; have HNr := hide hnr; have hnr1 : (nr : Int) <= 19 := by omega
 have HB0 := hide ((Below.refl w.heap.size w).alloc (Nat.le_refl _) (.cells #[.string ⟨#[]⟩, .bool false, .bool false, .slice none 0 0, .int .i64 0, .string ⟨#[]⟩, .int .i64 0, .slice none 0 0, .slice none 0 0] 48)); have HX0 := hide (heap_alloc_new w (.cells #[.string ⟨#[]⟩, .bool false, .bool false, .slice none 0 0, .int .i64 0, .string ⟨#[]⟩, .int .i64 0, .slice none 0 0, .slice none 0 0] 48)); go_enter Tryz.func36, Tryz.ntmps36; go_wp2_with fail; generalize w.alloc (.cells #[.string ⟨#[]⟩, .bool false, .bool false, .slice none 0 0, .int .i64 0, .string ⟨#[]⟩, .int .i64 0, .slice none 0 0, .slice none 0 0] 48) = wa at *
 refine (HRow.out wa HB0.out).mono ?_; rintro e w1 ⟨vr, rfl, ho1, hb1⟩; have HB1 := hide (HB0.out.trans (hb1.mono HB0.out.size)); have HBa := hide hb1; have hrow := ho1.row (shp_clsw w) fun _ _ h => h; have HOw := hide ho1; obtain ⟨ra, rc, rfl, _⟩ := hrow.len; rw [<- hnr] at hrow HOw ⊢; have HRr := hide hrow; have HX1 := hide ((hb1.block _ (Ow.lt_of_blk HX0.out)).trans HX0.out); clear HRow hb1 ho1 hrow hnr HX0; go_wp2_with fail
 go_loopw [9] (fun iv wr => ∃ i : Nat, i <= nr /\ iv = .int .i64 i /\ Hid (Below w1.heap.size w1 wr) /\ Hid (Ly.mtsB rs i nm = false)) (fun iv _ => nr - (intOf iv).toNat)
 case atStart => exact ⟨0, Nat.zero_le _, rfl, hide (Below.refl _ _), hide (Ly.mtsB_zero rs nm)⟩
 case round =>
  obtain ⟨i, hi, rfl, HB, HNo⟩ := hrel; have HX2 := hide ((HB.out.block _ (Ow.lt_of_blk HX1.out)).trans HX1.out); have HBw := hide (HB1.out.trans (HB.out.mono HB1.out.size)); by_cases hlt : i < nr
  · obtain ⟨c, hc⟩ : ∃ c, rs[i]? = some c := ⟨rs[i]'(by rw [<- HNr.out]; exact hlt), List.getElem?_eq_getElem _⟩
    obtain ⟨g, o, rfl, ys, wf, hcc⟩ := Ow.row_at' HRr.out hc; have HC := hide hc; have HWf := hide wf; have HCells := hide (fun wx (hb : Below w1.heap.size w1 wx) => hcc wx hb); obtain ⟨ia, ic, fa, fc, ma, mc, rfl, _, _, xm⟩ := cls_open wf; have HXm := hide xm; have hcl := HCf.out c (List.mem_of_getElem? hc); have HLt := hide hcl.2; have HOwn := hide (own_any c _ nm wr (HWf.out.on HBw.out) (by omega))
    have r0 := HCells.out wr HB.out 0 _ rfl; have r1 := HCells.out wr HB.out 1 _ rfl; have r2 := HCells.out wr HB.out 2 _ rfl; have r3 := HCells.out wr HB.out 3 _ rfl; have r4 := HCells.out wr HB.out 4 _ rfl; have r5 := HCells.out wr HB.out 5 _ rfl; rw [Nat.add_zero] at r0; have hmi : (i : Int) < (nr : Int) := by omega
    clear hc wf hcc xm hcl; go_wp2_with fail; refine HOwn.out.mono ?_; rintro e w2 ⟨rfl, hb2⟩; have HB2 := hide (HB.out.trans (hb2.mono HB.out.size)); have HX3 := hide ((hb2.block _ (Ow.lt_of_blk HX2.out)).trans HX2.out); clear HOwn hb2 r0 r1 r2 r3 r4 r5; cases hown : Ly.ownP c.methods nm with
    | none =>
      have HNo2 := hide (Ly.mtsB_step HNo.out HC.out hown); have hn0 : ¬ (0 : Int) <= -1 := by decide
      clear hown; simp only [Ly.ownI]; go_wp2_with fail
      go_roundw
      case rel => exact ⟨i + 1, by omega, by go_num, HB2, HNo2⟩
      case measure => simp [intOf]; omega
    | some j =>
      obtain ⟨hjl, _⟩ := List.findIdx?_eq_some_iff_getElem.1 hown; obtain ⟨m, hm⟩ : ∃ m, c.methods[j]? = some m := ⟨c.methods[j], List.getElem?_eq_getElem hjl⟩; have HFd : Hid (res = some (c.name, m)) := hide (HMt.out.trans (Ly.mts_found HNo.out HC.out hown hm)); obtain ⟨g2, o2, e2, ms, mf, hcm⟩ := Ow.row_at' HXm.out hm; subst e2
      have HG2 : Hid (g2 < w.heap.size) := hide (by
       obtain ⟨_, _, e, _, hx⟩ := HXm.out; injection e with e _ _
       rcases hx with hx | ⟨b3, o3, e3, hlt3, _⟩
       · rw [hx] at hm; cases hm
       · rw [e3] at e; injection e with e; injection e with e; rw [e]; exact hlt3)
      have HMf := hide mf; obtain ⟨vp, vc', vk, rfl, x1, x2, x3, _⟩ := mf; obtain ⟨ap, cp, rfl, _⟩ := x1.len; obtain ⟨ac, cc, rfl, _⟩ := x2.len; obtain ⟨ak, ck, rfl, _⟩ := x3.len; simp only [mthXL] at HMf hcm; have HTw := hide (fun wx (hb : Below w1.heap.size w1 wx) => TwinMethod_any m _ wx (HMf.out.on (HB1.out.trans (hb.mono HB1.out.size))) (HLt.out.2.2.2 m (List.mem_of_getElem? hm))); obtain ⟨nm', hnm⟩ : ∃ q, q = c.methods.length := ⟨_, rfl⟩; have hjn : j < nm' := by rw [hnm]; exact hjl
      have hjn' : (j : Int) < (nm' : Int) := by omega
      have hnm1 : nm' <= 6 := by rw [hnm]; exact (HCf.out c (List.mem_of_getElem? HC.out)).1
      have hnm2 : (nm' : Int) <= 6 := by omega
      have hj0' : (0 : Int) <= (j : Int) := by omega
      have HS : Hid (∀ wz, Below w1.heap.size w1 wz -> wz.cell? ⟨g, o + i * 6, none⟩ = some (.string ⟨c.name.toArray⟩) /\ wz.cell? ⟨g, o + i * 6 + 5, none⟩ = some (.slice (some ⟨g2, o2, none⟩) nm' mc) /\ wz.cell? ⟨g2, o2 + j * 9, none⟩ = some (.string ⟨m.name.toArray⟩) /\ wz.cell? ⟨g2, o2 + j * 9 + 1, none⟩ = some (.bool m.stat) /\ wz.cell? ⟨g2, o2 + j * 9 + 2, none⟩ = some (.bool m.abst) /\ wz.cell? ⟨g2, o2 + j * 9 + 3, none⟩ = some (.slice ap m.params.length cp) /\ wz.cell? ⟨g2, o2 + j * 9 + 4, none⟩ = some (.int .i64 m.ret.kind) /\ wz.cell? ⟨g2, o2 + j * 9 + 5, none⟩ = some (.string ⟨m.ret.name.toArray⟩) /\ wz.cell? ⟨g2, o2 + j * 9 + 6, none⟩ = some (.int .i64 m.locals) /\ wz.cell? ⟨g2, o2 + j * 9 + 7, none⟩ = some (.slice ac m.code.length cc) /\ wz.cell? ⟨g2, o2 + j * 9 + 8, none⟩ = some (.slice ak m.catches.length ck)) := hide fun wz hb => by
       have hcw := hcm wz (HB1.out.trans (hb.mono HB1.out.size)); rw [hnm]; exact ⟨by have := HCells.out wz hb 0 _ rfl; rwa [Nat.add_zero] at this, HCells.out wz hb 5 _ rfl, by have := hcw 0 _ rfl; rwa [Nat.add_zero] at this, hcw 1 _ rfl, hcw 2 _ rfl, hcw 3 _ rfl, hcw 4 _ rfl, hcw 5 _ rfl, hcw 6 _ rfl, hcw 7 _ rfl, hcw 8 _ rfl⟩
      have HDr : Hid (Below w1.heap.size w1 w2.drew) := hide (HB2.out.trans (Below.drew (Below.refl _ _))); have HX4 : Hid (w2.drew.heap[w.heap.size]? = some (.cells #[.string ⟨#[]⟩, .bool false, .bool false, .slice none 0 0, .int .i64 0, .string ⟨#[]⟩, .int .i64 0, .slice none 0 0, .slice none 0 0] 48 (0, 0))) := hide HX3.out
      have HGb : Hid (g ≠ w.heap.size /\ g2 ≠ w.heap.size) := hide ⟨by
       rintro rfl; obtain ⟨_, cc3, h3⟩ := own_lt HOw.out (k := w.heap.size) rfl; rw [HX1.out] at h3; injection h3 with h3; injection h3 with _ h3; exact absurd h3 (by decide), by
       exact Nat.ne_of_lt HG2.out⟩
      clear hown hm hcm x1 x2 x3 hnm HNo HX2 HX3; simp only [Ly.ownI]; go_wp2_with fail
      go_region_held3 (fun wz => wz.cell? ⟨g, o + i * 6, none⟩ = some (.string ⟨c.name.toArray⟩) /\ wz.cell? ⟨g, o + i * 6 + 5, none⟩ = some (.slice (some ⟨g2, o2, none⟩) nm' mc) /\ wz.cell? ⟨g2, o2 + j * 9, none⟩ = some (.string ⟨m.name.toArray⟩) /\ wz.cell? ⟨g2, o2 + j * 9 + 1, none⟩ = some (.bool m.stat) /\ wz.cell? ⟨g2, o2 + j * 9 + 2, none⟩ = some (.bool m.abst) /\ wz.cell? ⟨g2, o2 + j * 9 + 3, none⟩ = some (.slice ap m.params.length cp) /\ wz.cell? ⟨g2, o2 + j * 9 + 4, none⟩ = some (.int .i64 m.ret.kind) /\ wz.cell? ⟨g2, o2 + j * 9 + 5, none⟩ = some (.string ⟨m.ret.name.toArray⟩) /\ wz.cell? ⟨g2, o2 + j * 9 + 6, none⟩ = some (.int .i64 m.locals) /\ wz.cell? ⟨g2, o2 + j * 9 + 7, none⟩ = some (.slice ac m.code.length cc) /\ wz.cell? ⟨g2, o2 + j * 9 + 8, none⟩ = some (.slice ak m.catches.length ck)) (first | with_reducible exact HSst.out | with_reducible exact HS5.out | with_reducible exact HS.out _ HDr.out)
       (first
         | (go_at_call 57
            refine (HTw.out _ HDr.out).mono ?_; rintro e w5 ⟨ys', rfl, ho5, hb5⟩; have HO5 := hide ho5; obtain ⟨vp', vc2, vk', rfl, y1, y2, y3, _⟩ := ho5; obtain ⟨tp, dp, rfl⟩ := y1.shape; obtain ⟨tc, dc, rfl⟩ := y2.shape; obtain ⟨tk, dk, rfl⟩ := y3.shape; have hbo := (hb5.block _ (Ow.lt_of_blk HX4.out)).trans HX4.out; have HD5 := hide (HDr.out.trans (hb5.mono HDr.out.size)); have HS5 := hide (HS.out w5 HD5.out); have hFx := fx_nine w.heap.size w5 (.string ⟨m.name.toArray⟩) (.bool m.stat) (.bool m.abst) (.slice tp m.params.length dp) (.int .i64 m.ret.kind) (.string ⟨m.ret.name.toArray⟩) (.int .i64 m.locals) (.slice tc m.code.length dc) (.slice tk m.catches.length dk); have HFx := hide hFx
            have hgl : g < w5.heap.size := by
             have h1 := (own_lt HOw.out (k := g) rfl).1; exact Nat.lt_of_lt_of_le h1 HD5.out.size
            have hgl2 : g2 < w5.heap.size := by
             have h1 := HG2.out; have h2 := HB1.out.size; have h3 := HD5.out.size; omega
            have HSst : Hid ((((((((((w5.setCell ⟨w.heap.size, 0, none⟩ (.string ⟨m.name.toArray⟩)).setCell ⟨w.heap.size, 1, none⟩ (.bool m.stat)).setCell ⟨w.heap.size, 2, none⟩ (.bool m.abst)).setCell ⟨w.heap.size, 3, none⟩ (.slice tp m.params.length dp)).setCell ⟨w.heap.size, 4, none⟩ (.int .i64 m.ret.kind)).setCell ⟨w.heap.size, 5, none⟩ (.string ⟨m.ret.name.toArray⟩)).setCell ⟨w.heap.size, 6, none⟩ (.int .i64 m.locals)).setCell ⟨w.heap.size, 7, none⟩ (.slice tc m.code.length dc)).setCell ⟨w.heap.size, 8, none⟩ (.slice tk m.catches.length dk)).cell? ⟨g, o + i * 6, none⟩ = some (.string ⟨c.name.toArray⟩) /\ (((((((((w5.setCell ⟨w.heap.size, 0, none⟩ (.string ⟨m.name.toArray⟩)).setCell ⟨w.heap.size, 1, none⟩ (.bool m.stat)).setCell ⟨w.heap.size, 2, none⟩ (.bool m.abst)).setCell ⟨w.heap.size, 3, none⟩ (.slice tp m.params.length dp)).setCell ⟨w.heap.size, 4, none⟩ (.int .i64 m.ret.kind)).setCell ⟨w.heap.size, 5, none⟩ (.string ⟨m.ret.name.toArray⟩)).setCell ⟨w.heap.size, 6, none⟩ (.int .i64 m.locals)).setCell ⟨w.heap.size, 7, none⟩ (.slice tc m.code.length dc)).setCell ⟨w.heap.size, 8, none⟩ (.slice tk m.catches.length dk)).cell? ⟨g, o + i * 6 + 5, none⟩ = some (.slice (some ⟨g2, o2, none⟩) nm' mc) /\ (((((((((w5.setCell ⟨w.heap.size, 0, none⟩ (.string ⟨m.name.toArray⟩)).setCell ⟨w.heap.size, 1, none⟩ (.bool m.stat)).setCell ⟨w.heap.size, 2, none⟩ (.bool m.abst)).setCell ⟨w.heap.size, 3, none⟩ (.slice tp m.params.length dp)).setCell ⟨w.heap.size, 4, none⟩ (.int .i64 m.ret.kind)).setCell ⟨w.heap.size, 5, none⟩ (.string ⟨m.ret.name.toArray⟩)).setCell ⟨w.heap.size, 6, none⟩ (.int .i64 m.locals)).setCell ⟨w.heap.size, 7, none⟩ (.slice tc m.code.length dc)).setCell ⟨w.heap.size, 8, none⟩ (.slice tk m.catches.length dk)).cell? ⟨g2, o2 + j * 9, none⟩ = some (.string ⟨m.name.toArray⟩) /\ (((((((((w5.setCell ⟨w.heap.size, 0, none⟩ (.string ⟨m.name.toArray⟩)).setCell ⟨w.heap.size, 1, none⟩ (.bool m.stat)).setCell ⟨w.heap.size, 2, none⟩ (.bool m.abst)).setCell ⟨w.heap.size, 3, none⟩ (.slice tp m.params.length dp)).setCell ⟨w.heap.size, 4, none⟩ (.int .i64 m.ret.kind)).setCell ⟨w.heap.size, 5, none⟩ (.string ⟨m.ret.name.toArray⟩)).setCell ⟨w.heap.size, 6, none⟩ (.int .i64 m.locals)).setCell ⟨w.heap.size, 7, none⟩ (.slice tc m.code.length dc)).setCell ⟨w.heap.size, 8, none⟩ (.slice tk m.catches.length dk)).cell? ⟨g2, o2 + j * 9 + 1, none⟩ = some (.bool m.stat) /\ (((((((((w5.setCell ⟨w.heap.size, 0, none⟩ (.string ⟨m.name.toArray⟩)).setCell ⟨w.heap.size, 1, none⟩ (.bool m.stat)).setCell ⟨w.heap.size, 2, none⟩ (.bool m.abst)).setCell ⟨w.heap.size, 3, none⟩ (.slice tp m.params.length dp)).setCell ⟨w.heap.size, 4, none⟩ (.int .i64 m.ret.kind)).setCell ⟨w.heap.size, 5, none⟩ (.string ⟨m.ret.name.toArray⟩)).setCell ⟨w.heap.size, 6, none⟩ (.int .i64 m.locals)).setCell ⟨w.heap.size, 7, none⟩ (.slice tc m.code.length dc)).setCell ⟨w.heap.size, 8, none⟩ (.slice tk m.catches.length dk)).cell? ⟨g2, o2 + j * 9 + 2, none⟩ = some (.bool m.abst) /\ (((((((((w5.setCell ⟨w.heap.size, 0, none⟩ (.string ⟨m.name.toArray⟩)).setCell ⟨w.heap.size, 1, none⟩ (.bool m.stat)).setCell ⟨w.heap.size, 2, none⟩ (.bool m.abst)).setCell ⟨w.heap.size, 3, none⟩ (.slice tp m.params.length dp)).setCell ⟨w.heap.size, 4, none⟩ (.int .i64 m.ret.kind)).setCell ⟨w.heap.size, 5, none⟩ (.string ⟨m.ret.name.toArray⟩)).setCell ⟨w.heap.size, 6, none⟩ (.int .i64 m.locals)).setCell ⟨w.heap.size, 7, none⟩ (.slice tc m.code.length dc)).setCell ⟨w.heap.size, 8, none⟩ (.slice tk m.catches.length dk)).cell? ⟨g2, o2 + j * 9 + 3, none⟩ = some (.slice ap m.params.length cp) /\ (((((((((w5.setCell ⟨w.heap.size, 0, none⟩ (.string ⟨m.name.toArray⟩)).setCell ⟨w.heap.size, 1, none⟩ (.bool m.stat)).setCell ⟨w.heap.size, 2, none⟩ (.bool m.abst)).setCell ⟨w.heap.size, 3, none⟩ (.slice tp m.params.length dp)).setCell ⟨w.heap.size, 4, none⟩ (.int .i64 m.ret.kind)).setCell ⟨w.heap.size, 5, none⟩ (.string ⟨m.ret.name.toArray⟩)).setCell ⟨w.heap.size, 6, none⟩ (.int .i64 m.locals)).setCell ⟨w.heap.size, 7, none⟩ (.slice tc m.code.length dc)).setCell ⟨w.heap.size, 8, none⟩ (.slice tk m.catches.length dk)).cell? ⟨g2, o2 + j * 9 + 4, none⟩ = some (.int .i64 m.ret.kind) /\ (((((((((w5.setCell ⟨w.heap.size, 0, none⟩ (.string ⟨m.name.toArray⟩)).setCell ⟨w.heap.size, 1, none⟩ (.bool m.stat)).setCell ⟨w.heap.size, 2, none⟩ (.bool m.abst)).setCell ⟨w.heap.size, 3, none⟩ (.slice tp m.params.length dp)).setCell ⟨w.heap.size, 4, none⟩ (.int .i64 m.ret.kind)).setCell ⟨w.heap.size, 5, none⟩ (.string ⟨m.ret.name.toArray⟩)).setCell ⟨w.heap.size, 6, none⟩ (.int .i64 m.locals)).setCell ⟨w.heap.size, 7, none⟩ (.slice tc m.code.length dc)).setCell ⟨w.heap.size, 8, none⟩ (.slice tk m.catches.length dk)).cell? ⟨g2, o2 + j * 9 + 5, none⟩ = some (.string ⟨m.ret.name.toArray⟩) /\ (((((((((w5.setCell ⟨w.heap.size, 0, none⟩ (.string ⟨m.name.toArray⟩)).setCell ⟨w.heap.size, 1, none⟩ (.bool m.stat)).setCell ⟨w.heap.size, 2, none⟩ (.bool m.abst)).setCell ⟨w.heap.size, 3, none⟩ (.slice tp m.params.length dp)).setCell ⟨w.heap.size, 4, none⟩ (.int .i64 m.ret.kind)).setCell ⟨w.heap.size, 5, none⟩ (.string ⟨m.ret.name.toArray⟩)).setCell ⟨w.heap.size, 6, none⟩ (.int .i64 m.locals)).setCell ⟨w.heap.size, 7, none⟩ (.slice tc m.code.length dc)).setCell ⟨w.heap.size, 8, none⟩ (.slice tk m.catches.length dk)).cell? ⟨g2, o2 + j * 9 + 6, none⟩ = some (.int .i64 m.locals) /\ (((((((((w5.setCell ⟨w.heap.size, 0, none⟩ (.string ⟨m.name.toArray⟩)).setCell ⟨w.heap.size, 1, none⟩ (.bool m.stat)).setCell ⟨w.heap.size, 2, none⟩ (.bool m.abst)).setCell ⟨w.heap.size, 3, none⟩ (.slice tp m.params.length dp)).setCell ⟨w.heap.size, 4, none⟩ (.int .i64 m.ret.kind)).setCell ⟨w.heap.size, 5, none⟩ (.string ⟨m.ret.name.toArray⟩)).setCell ⟨w.heap.size, 6, none⟩ (.int .i64 m.locals)).setCell ⟨w.heap.size, 7, none⟩ (.slice tc m.code.length dc)).setCell ⟨w.heap.size, 8, none⟩ (.slice tk m.catches.length dk)).cell? ⟨g2, o2 + j * 9 + 7, none⟩ = some (.slice ac m.code.length cc) /\ (((((((((w5.setCell ⟨w.heap.size, 0, none⟩ (.string ⟨m.name.toArray⟩)).setCell ⟨w.heap.size, 1, none⟩ (.bool m.stat)).setCell ⟨w.heap.size, 2, none⟩ (.bool m.abst)).setCell ⟨w.heap.size, 3, none⟩ (.slice tp m.params.length dp)).setCell ⟨w.heap.size, 4, none⟩ (.int .i64 m.ret.kind)).setCell ⟨w.heap.size, 5, none⟩ (.string ⟨m.ret.name.toArray⟩)).setCell ⟨w.heap.size, 6, none⟩ (.int .i64 m.locals)).setCell ⟨w.heap.size, 7, none⟩ (.slice tc m.code.length dc)).setCell ⟨w.heap.size, 8, none⟩ (.slice tk m.catches.length dk)).cell? ⟨g2, o2 + j * 9 + 8, none⟩ = some (.slice ak m.catches.length ck)) := hide ⟨(cell_of_blk (hFx.blk g hgl HGb.out.1)).trans HS5.out.1, (cell_of_blk (hFx.blk g hgl HGb.out.1)).trans HS5.out.2.1, (cell_of_blk (hFx.blk g2 hgl2 HGb.out.2)).trans HS5.out.2.2.1, (cell_of_blk (hFx.blk g2 hgl2 HGb.out.2)).trans HS5.out.2.2.2.1, (cell_of_blk (hFx.blk g2 hgl2 HGb.out.2)).trans HS5.out.2.2.2.2.1, (cell_of_blk (hFx.blk g2 hgl2 HGb.out.2)).trans HS5.out.2.2.2.2.2.1, (cell_of_blk (hFx.blk g2 hgl2 HGb.out.2)).trans HS5.out.2.2.2.2.2.2.1, (cell_of_blk (hFx.blk g2 hgl2 HGb.out.2)).trans HS5.out.2.2.2.2.2.2.2.1, (cell_of_blk (hFx.blk g2 hgl2 HGb.out.2)).trans HS5.out.2.2.2.2.2.2.2.2.1, (cell_of_blk (hFx.blk g2 hgl2 HGb.out.2)).trans HS5.out.2.2.2.2.2.2.2.2.2.1, (cell_of_blk (hFx.blk g2 hgl2 HGb.out.2)).trans HS5.out.2.2.2.2.2.2.2.2.2.2⟩
            have HKx : Hid (Ow.Kx 48 w5 (((((((((w5.setCell ⟨w.heap.size, 0, none⟩ (.string ⟨m.name.toArray⟩)).setCell ⟨w.heap.size, 1, none⟩ (.bool m.stat)).setCell ⟨w.heap.size, 2, none⟩ (.bool m.abst)).setCell ⟨w.heap.size, 3, none⟩ (.slice tp m.params.length dp)).setCell ⟨w.heap.size, 4, none⟩ (.int .i64 m.ret.kind)).setCell ⟨w.heap.size, 5, none⟩ (.string ⟨m.ret.name.toArray⟩)).setCell ⟨w.heap.size, 6, none⟩ (.int .i64 m.locals)).setCell ⟨w.heap.size, 7, none⟩ (.slice tc m.code.length dc)).setCell ⟨w.heap.size, 8, none⟩ (.slice tk m.catches.length dk))) := hide ⟨hFx.size, fun k c t f hk ht => (hFx.blk k (Ow.lt_of_blk hk) (fun e => by
             rw [e, hbo] at hk; injection hk with hk; injection hk with _ hk
             exact ht hk.symm)).trans hk⟩
            have HBd : Hid (Below w.heap.size w (((((((((w5.setCell ⟨w.heap.size, 0, none⟩ (.string ⟨m.name.toArray⟩)).setCell ⟨w.heap.size, 1, none⟩ (.bool m.stat)).setCell ⟨w.heap.size, 2, none⟩ (.bool m.abst)).setCell ⟨w.heap.size, 3, none⟩ (.slice tp m.params.length dp)).setCell ⟨w.heap.size, 4, none⟩ (.int .i64 m.ret.kind)).setCell ⟨w.heap.size, 5, none⟩ (.string ⟨m.ret.name.toArray⟩)).setCell ⟨w.heap.size, 6, none⟩ (.int .i64 m.locals)).setCell ⟨w.heap.size, 7, none⟩ (.slice tc m.code.length dc)).setCell ⟨w.heap.size, 8, none⟩ (.slice tk m.catches.length dk))) := hide (by
             iterate 9 refine put_at ?_ _ _
             exact HB1.out.trans (HD5.out.mono HB1.out.size))
            have f0 := Ow.fzl_blk hbo 0; have q0 := cell_box hbo 0; have f1 := Ow.fzl_blk hbo 1; have q1 := cell_box hbo 1; have f2 := Ow.fzl_blk hbo 2; have q2 := cell_box hbo 2; have f3 := Ow.fzl_blk hbo 3; have q3 := cell_box hbo 3; have f4 := Ow.fzl_blk hbo 4; have q4 := cell_box hbo 4; have f5 := Ow.fzl_blk hbo 5; have q5 := cell_box hbo 5; have f6 := Ow.fzl_blk hbo 6; have q6 := cell_box hbo 6; have f7 := Ow.fzl_blk hbo 7; have q7 := cell_box hbo 7; have f8 := Ow.fzl_blk hbo 8; have q8 := cell_box hbo 8; clear hbo hFx hgl hgl2 hb5 y1 y2 y3
            simp only [mthXL] at HO5 ⊢)
         | fail)
      all_goals go_wp2_with fail
      all_goals refine bodyPost_ret (v := .tuple #[.string ⟨c.name.toArray⟩, .agg #[.string ⟨m.name.toArray⟩, .bool m.stat, .bool m.abst, .slice tp m.params.length dp, .int .i64 m.ret.kind, .string ⟨m.ret.name.toArray⟩, .int .i64 m.locals, .slice tc m.code.length dc, .slice tk m.catches.length dk]]) (by simp [results, Tryz.results36, go_sem, *]) rfl ?_
      all_goals exact ⟨FoundM.yes HFd.out ((HO5.out.kx HKx.out (by decide) (by decide) (by decide)).on (Below.refl _ _) (Nat.le_trans HB1.out.size HDr.out.size)), HBd.out⟩
  · have HNone : Hid (res = none) := hide (HMt.out.trans (Ly.mts_none HNo.out (by rw [<- HNr.out]; omega)))
    have hnl : ¬ ((i : Int) < (nr : Int)) := by omega
    clear HNo; have f0 := Ow.fzl_blk HX2.out 0; have q0 := cell_box HX2.out 0; have f1 := Ow.fzl_blk HX2.out 1; have q1 := cell_box HX2.out 1; have f2 := Ow.fzl_blk HX2.out 2; have q2 := cell_box HX2.out 2; have f3 := Ow.fzl_blk HX2.out 3; have q3 := cell_box HX2.out 3; have f4 := Ow.fzl_blk HX2.out 4; have q4 := cell_box HX2.out 4; have f5 := Ow.fzl_blk HX2.out 5; have q5 := cell_box HX2.out 5; have f6 := Ow.fzl_blk HX2.out 6; have q6 := cell_box HX2.out 6; have f7 := Ow.fzl_blk HX2.out 7; have q7 := cell_box HX2.out 7; have f8 := Ow.fzl_blk HX2.out 8; have q8 := cell_box HX2.out 8; go_wp2_with fail; refine bodyPost_ret (v := .tuple #[.string ⟨#[]⟩, .agg zeroM.toArray]) (by simp [results, Tryz.results36, go_sem, zeroM, *]) rfl ?_
    refine ⟨FoundM.no HNone.out, ?_⟩
    iterate 9 refine put_at ?_ _ _
    exact HBw.out
end Go.Proofs.YtbbbnciejmdpfabGreatDoor

/- What the laws of this seat lean on: 1 texts. -/
import Derived.Test.YtbbbnciejmdpfabGreatDoorPkBp
set_option maxRecDepth 100000
set_option maxHeartbeats 64000000
set_option linter.unusedVariables false
set_option linter.unusedSimpArgs false
namespace Go.Proofs.YtbbbnciejmdpfabGreatDoor
open Go.RowKit
namespace Ly
open Pp Hr
theorem mtF_name {cs : List XCls} {up : List (List Nat)} (he : errL cs = 0) (hg : growL (allL cs) (allL cs) = some up) : ∀ n k, k < (allL cs).length -> ∀ o ∈ (pnet (allL cs) up).mtF n k, o.1 ≠ [] /\ o.2.params.length <= 4
 | 0, _, _, o, ho => by cases ho
 | n + 1, k, hk, o, ho => by
   unfold Net.mtF at ho
   have h0 : ∀ o ∈ Net.ownM ((pnet (allL cs) up).cl k), o.1 ≠ [] /\ o.2.params.length <= 4 := by
    intro o ho; obtain ⟨m, hm, rfl⟩ := List.mem_map.1 ho; exact ⟨(all_facts (err_zero he).1 (at_of hk)).1, all_pars (err_zero he).1 (at_of hk) m hm⟩
   cases hs : (pnet (allL cs) up).sup k with
   | none => rw [hs] at ho; exact h0 o ho
   | some s =>
     rw [hs] at ho
     rcases List.mem_append.1 ho with ho | ho
     · exact h0 o ho
     · exact mtF_name he hg n s ((pnet_good he hg).sup k s hk hs).1 o ho
theorem methP_name {cs : List XCls} {up : List (List Nat)} (he : errL cs = 0) (hg : growL (allL cs) (allL cs) = some up) {k : Nat} (hk : k < (allL cs).length) {nm : Bs} {o : Bs × XMth} (ho : methP (pnet (allL cs) up) k nm = some o) : o.1 ≠ [] /\ o.2.params.length <= 4 :=
 mtF_name he hg _ k hk o (List.mem_of_find?_eq_some ho)
end Ly
theorem loop_ne (b : ByteArray) : ∀ n i (r : List UInt8), r ≠ [] -> b.size - i = n -> ByteArray.toList.loop b i r ≠ [] := by
 intro n
 induction n with
 | zero => intro i r h e; unfold ByteArray.toList.loop; rw [if_neg (by omega)]; simpa using h
 | succ n ih => intro i r h e; unfold ByteArray.toList.loop; rw [if_pos (by omega)]; exact ih _ _ (by simp) (by omega)
theorem ba_ne {b : ByteArray} (h : b ≠ ⟨#[]⟩) : b.toList.isEmpty = false := by
 have hs : 0 < b.size := by
  rcases Nat.eq_zero_or_pos b.size with h0 | h0
  · exact absurd (by cases b; simpa [ByteArray.size] using h0) h
  · exact h0
 have : b.toList ≠ [] := by
  unfold ByteArray.toList ByteArray.toList.loop; rw [if_pos hs]; exact loop_ne b _ _ _ (by simp) rfl
 simpa using this
theorem inherits_any {cs : List Pp.XCls} {up : List (List Nat)} (he : Hr.errL cs = 0) (hg : Hr.growL (Hr.allL cs) (Hr.allL cs) = some up) (hl : Pp.Light cs) (v : Value) (c : Pp.XCls) (ys : List Value) (q : Nat) (hq : Hr.placeL (Hr.allL cs) (Hr.superS c) = some q) (w : World) (hr : RowX w 6 (ClsX w) v (Hr.allL cs)) (h : ClsX w c ys) (hf : c.fields.length <= 100) (hm : c.methods.length <= 100) (hp : ∀ m ∈ c.methods, m.params.length <= 100) :
 Calls Tryz.prog 15 #[v, .agg ys.toArray] w fun e w' => e = .returned (.int .i64 (Ly.inhG (Ly.pnet (Hr.allL cs) up) q c)) /\ Below w.heap.size w w' := by
 have hql : q < (Hr.allL cs).length := by
  obtain ⟨d, h1, _⟩ := Hr.placeL_lt hq; exact (List.getElem?_eq_some_iff.1 h1).1
 have HSu := hide (fun wx (hb : Below w.heap.size w wx) => RSuper_any c ys wx (h.on hb)); have HSl := hide (fun wx (hb : Below w.heap.size w wx) => slotsOf_any he hg v (Hr.superS c) q hq wx (hr.on hb fun _ _ h => h.on hb)); have HMe := hide (fun wx (hb : Below w.heap.size w wx) nm => rmethod_any he hg hl v (Hr.superS c) nm q hq wx (hr.on hb fun _ _ h => h.on hb)); have HMn := hide (fun nm o (ho : Ly.methP (Ly.pnet (Hr.allL cs) up) q nm = some o) => Ly.methP_name he hg hql ho); have HSs := hide ((Ly.pnet_small he hg).sl q hql); obtain ⟨N, hN⟩ : ∃ N, N = Ly.pnet (Hr.allL cs) up := ⟨_, rfl⟩; rw [<- hN] at HSl HMe HMn HSs ⊢; obtain ⟨ia, ic, fa, fc, ma, mc, rfl, _, x2, x3⟩ := cls_open h; have HRf := hide x2; have HRm := hide x3; have HPm := hide hp; obtain ⟨va, vc, rfl, _⟩ := hr.len; generalize (Hr.allL cs).length = nl at *
 clear x2 x3 h hp hr he hg hl hq hN hql; obtain ⟨r, hr⟩ : ∃ r, r = Ly.inhG N q c := ⟨_, rfl⟩; have H6 : Hid (c.fields.any (Ly.clashF N q) = true -> r = 6) := hide fun h => by rw [hr]; unfold Ly.inhG; rw [if_pos h]
 have H8 : Hid (c.fields.any (Ly.clashF N q) = false -> c.methods.any (Ly.clashM N q) = true -> r = 8) := hide fun h1 h2 => by rw [hr]; unfold Ly.inhG; rw [if_neg (by rw [h1]; decide), if_pos h2]
 have H0 : Hid (c.fields.any (Ly.clashF N q) = false -> c.methods.any (Ly.clashM N q) = false -> r = 0) := hide fun h1 h2 => by rw [hr]; unfold Ly.inhG; rw [if_neg (by rw [h1]; decide), if_neg (by rw [h2]; decide)]
 rw [<- hr]; clear hr; obtain ⟨nf, hnf⟩ : ∃ q, q = c.fields.length := ⟨_, rfl⟩; obtain ⟨nm, hnm⟩ : ∃ q, q = c.methods.length := ⟨_, rfl⟩; have HNf := hide hnf; have HNm := hide hnm; rw [<- hnf] at HRf hf HSu ⊢; rw [<- hnm] at HRm hm HSu ⊢; clear hnf hnm; generalize (⟨c.name.toArray⟩ : ByteArray) = NB at *
 generalize (⟨c.super.toArray⟩ : ByteArray) = SB at *
 generalize c.iface = fi at *
 generalize c.ifaces.length = ni at *
 generalize (⟨(Hr.superS c).toArray⟩ : ByteArray) = SU at *
 have hf1 : (nf : Int) <= 100 := by omega
 have hm1 : (nm : Int) <= 100 := by omega
 have HB0 := hide ((Below.refl w.heap.size w).alloc (Nat.le_refl _) (.cells #[.string NB, .bool fi, .string SB, .slice ia ni ic, .slice fa nf fc, .slice ma nm mc] 33)); have HX0 := hide (heap_alloc_new w (.cells #[.string NB, .bool fi, .string SB, .slice ia ni ic, .slice fa nf fc, .slice ma nm mc] 33)); go_enter Tryz.func15, Tryz.ntmps15; go_wp2_with fail; generalize w.alloc (.cells #[.string NB, .bool fi, .string SB, .slice ia ni ic, .slice fa nf fc, .slice ma nm mc] 33) = wa at *
 refine (HSu.out wa HB0.out).mono ?_; rintro e w1 ⟨rfl, hb1⟩; have HB1 := hide (HB0.out.trans (hb1.mono HB0.out.size)); have HX1 := hide ((hb1.block _ (Ow.lt_of_blk HX0.out)).trans HX0.out); clear HSu hb1 HX0; go_wp2_with fail; refine (HSl.out w1 HB1.out).mono ?_; rintro e w2 ⟨vs, rfl, ho2, hb2⟩; have HB2 := hide (HB1.out.trans (hb2.mono HB1.out.size)); have HX2 := hide ((hb2.block _ (Ow.lt_of_blk HX1.out)).trans HX1.out); have hsrow := ho2.row shp_slt fun _ _ h => h; obtain ⟨sa, sc, rfl, _⟩ := hsrow.len; obtain ⟨ns, hns⟩ : ∃ y, y = (N.sl q).length := ⟨_, rfl⟩; have HNs := hide hns; have hns1 : (ns : Int) <= 100000 := by have := HSs.out; omega
 rw [<- hns] at hsrow ⊢; have HRs := hide hsrow; clear HSl hb2 ho2 hsrow hns HX1; go_wp2_with fail
 go_loopw [7] (fun i wr => ∃ k : Nat, k <= nf /\ i = .int .i64 k /\ Hid (Below w2.heap.size w2 wr) /\ Hid ((c.fields.take k).any (Ly.clashF N q) = false)) (fun i _ => nf - (intOf i).toNat)
 case atStart => exact ⟨0, Nat.zero_le _, rfl, hide (Below.refl _ _), hide (by simp)⟩
 case round =>
  obtain ⟨k, hk, rfl, HB, HA⟩ := hrel; have hX3 := (HB.out.block _ (Ow.lt_of_blk HX2.out)).trans HX2.out; have c4 := cell_box hX3 4; by_cases hlt : k < nf
  · obtain ⟨x, hx⟩ : ∃ x, c.fields[k]? = some x := ⟨c.fields[k]'(by rw [<- HNf.out]; exact hlt), List.getElem?_eq_getElem _⟩
    obtain ⟨g, o, rfl, ys, wf, hc⟩ := Ow.row_at' HRf.out hx; obtain ⟨rfl, _⟩ := wf; have HCk := hide hc; have HBad := hide (fun hp => H6.out (Ly.any_stop (p := Ly.clashF N q) hx hp)); have HGood := hide (fun hp => Ly.any_take (p := Ly.clashF N q) HA.out hx hp); have hcf : Ly.clashF N q x = (!x.stat && (N.sl q).any fun t => t.name == x.name) := rfl; rw [hcf] at HBad HGood; have hlt' : (k : Int) < (nf : Int) := by omega
    obtain ⟨fs, hfs⟩ : ∃ y, y = x.stat := ⟨_, rfl⟩; have HFs := hide hfs; rw [<- hfs] at HBad HGood; clear hx hc hX3 hcf HA hfs; go_wp2_with fail
    go_loopw [8] (fun i wr => ∃ j : Nat, j <= ns /\ i = .int .i64 j /\ Hid (Below w2.heap.size w2 wr) /\ Hid (fs = false -> ((N.sl q).take j).any (fun t => t.name == x.name) = false)) (fun i _ => ns - (intOf i).toNat)
    case atStart => exact ⟨0, Nat.zero_le _, rfl, HB, hide (by simp)⟩
    case round =>
     clear HB c4; obtain ⟨j, hj, rfl, HB, HJ⟩ := hrel; have hX3 := (HB.out.block _ (Ow.lt_of_blk HX2.out)).trans HX2.out; have c4 := cell_box hX3 4; clear hX3; by_cases hjl : j < ns
     · obtain ⟨t, ht⟩ : ∃ y, (N.sl q)[j]? = some y := ⟨(N.sl q)[j]'(by rw [<- HNs.out]; exact hjl), List.getElem?_eq_getElem _⟩
       obtain ⟨g3, o3, rfl, zs, wz, hcz⟩ := Ow.row_at' HRs.out ht; have wz' : zs = [.string ⟨t.owner.toArray⟩, .string ⟨t.name.toArray⟩, .int .i64 t.ty.kind, .string ⟨t.ty.name.toArray⟩] := wz; subst wz'; have HBw := hide (HB2.out.trans (HB.out.mono HB2.out.size)); have r0 := HCk.out wr HBw.out 0 _ rfl; have r3 := HCk.out wr HBw.out 3 _ rfl; have s1 := hcz wr HB.out 1 _ rfl; rw [Nat.add_zero] at r0; rw [<- HFs.out] at r3; have hjl' : (j : Int) < (ns : Int) := by omega
       cases fs with
       | true =>
         clear ht hcz wz HJ; go_wp2_with fail
         go_quiet (fail)
         go_wp2_with fail
         go_roundw
         case rel => exact ⟨j + 1, by omega, by go_num, hide (by first | exact HB.out | exact below_drewN HB.out _), hide (fun h => by cases h)⟩
         case measure => simp [intOf]; omega
       | false =>
         by_cases hn : t.name = x.name
         · have HF := hide (HBad.out (by rw [Ly.any_stop (p := fun t : Pp.Slt => t.name == x.name) ht (by rw [hn]; simp)]; rfl))
           rw [hn] at s1; clear ht hcz wz hn HJ; go_wp2_with fail
           go_quiet (fail)
           go_wp2_with fail; go_ret; exact ⟨by rw [HF.out]; rfl, HB2.out.trans ((by first | exact HB.out | exact below_drewN HB.out _ : Below w2.heap.size w2 _).mono HB2.out.size)⟩
         · have hne : (t.name == x.name) = false := by simpa using hn
           have HJ2 := hide (Ly.any_take (p := fun t : Pp.Slt => t.name == x.name) (HJ.out rfl) ht hne); clear ht hcz wz hn HJ; go_wp2_with fail
           go_quiet (fail)
           go_wp2_with fail
           go_roundw
           case rel => exact ⟨j + 1, by omega, by go_num, hide (by first | exact HB.out | exact below_drewN HB.out _), hide (fun _ => HJ2.out)⟩
           case measure => simp [intOf]; omega
     · have HA2 := hide (HGood.out (by
        cases fs with
        | true => rfl
        | false => rw [Ly.any_end (HJ.out rfl) (by rw [<- HNs.out]; omega)]; rfl))
       have hjn : ¬ ((j : Int) < (ns : Int)) := by omega
       clear HJ; go_wp2_with fail
       go_roundw
       case rel => exact ⟨k + 1, by omega, by go_num, HB, HA2⟩
       case measure => simp [intOf]; omega
  · have HFl : Hid (c.fields.any (Ly.clashF N q) = false) := hide (Ly.any_end HA.out (by rw [<- HNf.out]; omega))
    have hnl : ¬ ((k : Int) < (nf : Int)) := by omega
    clear HA hX3; go_wp2_with fail
    go_loopw [9] (fun i wr => ∃ k : Nat, k <= nm /\ i = .int .i64 k /\ Hid (Below w2.heap.size w2 wr) /\ Hid ((c.methods.take k).any (Ly.clashM N q) = false)) (fun i _ => nm - (intOf i).toNat)
    case atStart => exact ⟨0, Nat.zero_le _, rfl, HB, hide (by simp)⟩
    case round =>
     clear HB c4; obtain ⟨k, hk, rfl, HB, HA⟩ := hrel; have HBw := hide (HB2.out.trans (HB.out.mono HB2.out.size)); have HX3 := hide ((HB.out.block _ (Ow.lt_of_blk HX2.out)).trans HX2.out); have c5 := cell_box HX3.out 5; by_cases hlt : k < nm
     · obtain ⟨m, hx⟩ : ∃ x, c.methods[k]? = some x := ⟨c.methods[k]'(by rw [<- HNm.out]; exact hlt), List.getElem?_eq_getElem _⟩
       obtain ⟨g, o, e3, ys, wf, hc⟩ := Ow.row_at' HRm.out hx; subst e3; have HCk := hide hc; have HMf := hide wf; have hmp := HPm.out m (List.mem_of_getElem? hx); have HBad := hide (fun hp => H8.out HFl.out (Ly.any_stop (p := Ly.clashM N q) hx hp)); have HGood := hide (fun hp => Ly.any_take (p := Ly.clashM N q) HA.out hx hp); obtain ⟨vp, vc', vk, rfl, z1, z2, z3, _⟩ := wf; obtain ⟨ap, cp, rfl, _⟩ := z1.len; obtain ⟨ac, cc, rfl, _⟩ := z2.len; obtain ⟨ak, ck, rfl, _⟩ := z3.len; simp only [mthXL] at HMf HCk; have r0 := HCk.out wr HBw.out 0 _ rfl; rw [Nat.add_zero] at r0; have hlt' : (k : Int) < (nm : Int) := by omega
       have HMc := hide (HMe.out wr HBw.out m.name); obtain ⟨cl, hcl⟩ : ∃ y, y = Ly.clashM N q m := ⟨_, rfl⟩; have HCl := hide hcl; unfold Ly.clashM at HCl; rw [<- hcl] at HBad HGood; have HMnm := hide (HMn.out m.name); generalize Ly.methP N q m.name = res at HMc HCl HMnm; clear hx hc z1 z2 z3 HA hcl; go_wp2_with fail; refine HMc.out.mono ?_; rintro e w5 ⟨⟨zs, rfl, hz1, hz2⟩, hb5⟩; have HB5 := hide (HB.out.trans (hb5.mono HB.out.size)); have HX5 := hide ((hb5.block _ (Ow.lt_of_blk HX3.out)).trans HX3.out); clear HMc hb5 HX3 c5; cases res with
       | none =>
         have hzs := hz2 rfl; subst hzs; have HA2 := hide (HGood.out HCl.out); have hA := (Below.refl w5.heap.size w5).alloc (Nat.le_refl _) (.cells #[.string ⟨#[]⟩, .bool false, .bool false, .slice none 0 0, .int .i64 0, .string ⟨#[]⟩, .int .i64 0, .slice none 0 0, .slice none 0 0] 48); have HB6 := hide (HB5.out.trans (hA.mono HB5.out.size)); clear HBad HGood HCl hz1 hz2 hA HMnm; simp only [zeroM, Option.map_none, Option.getD_none]; go_wp2_with fail
         go_quiet (fail)
         go_wp2_with fail
         go_roundw
         case rel => exact ⟨k + 1, by omega, by go_num, hide (by first | exact HB6.out | exact below_drewN HB6.out _), HA2⟩
         case measure => simp [intOf]; omega
       | some o' =>
         have ho := hz1 o' rfl; have HO := hide ho.x; obtain ⟨_, _, _, rfl, y1, y2, y3, _⟩ := ho; obtain ⟨tp, dp, rfl⟩ := y1.shape; obtain ⟨tc, dc, rfl⟩ := y2.shape; obtain ⟨tk, dk, rfl⟩ := y3.shape; obtain ⟨hne0, hop⟩ := HMnm.out o' rfl; have HCl2 : Hid (cl = (o'.2.stat != m.stat || !Ly.alikeB o'.2 m)) := hide HCl.out
         simp only [mthXL, Option.map_some, Option.getD_some] at HO ⊢; have HAl := hide (fun wx (hb : Below w5.heap.size w5 wx) => ralike_any o'.2 m _ _ wx (HO.out.on hb) (HMf.out.on ((HB2.out.trans (HB5.out.mono HB2.out.size)).trans (hb.mono (Nat.le_trans HB2.out.size HB5.out.size)))) (by omega) (by omega))
         have hne1 : (⟨o'.1.toArray⟩ : ByteArray) ≠ ⟨#[]⟩ := fun h => hne0 (by have := congrArg (fun b : ByteArray => b.data.toList) h; simpa using this)
         have hA := (Below.refl w5.heap.size w5).alloc (Nat.le_refl _) (.cells #[.string ⟨o'.2.name.toArray⟩, .bool o'.2.stat, .bool o'.2.abst, .slice tp o'.2.params.length dp, .int .i64 o'.2.ret.kind, .string ⟨o'.2.ret.name.toArray⟩, .int .i64 o'.2.locals, .slice tc o'.2.code.length dc, .slice tk o'.2.catches.length dk] 48); have hM0 := heap_alloc_new w5 (.cells #[.string ⟨o'.2.name.toArray⟩, .bool o'.2.stat, .bool o'.2.abst, .slice tp o'.2.params.length dp, .int .i64 o'.2.ret.kind, .string ⟨o'.2.ret.name.toArray⟩, .int .i64 o'.2.locals, .slice tc o'.2.code.length dc, .slice tk o'.2.catches.length dk] 48); clear hz1 hz2 y1 y2 y3 HCl HMnm hne0 HO HMf; obtain ⟨al, hal⟩ : ∃ y, y = Ly.alikeB o'.2 m := ⟨_, rfl⟩; rw [<- hal] at HAl HCl2; have HA6 := hide hA; have HM6 := hide hM0; clear hA hM0; generalize (⟨o'.1.toArray⟩ : ByteArray) = EN at *
         clear hal; obtain ⟨os, hos⟩ : ∃ y, y = o'.2.stat := ⟨_, rfl⟩; obtain ⟨st, hst⟩ : ∃ y, y = m.stat := ⟨_, rfl⟩; rw [<- hos, <- hst] at HCl2; rw [<- hos] at HAl HA6 HM6 ⊢; rw [<- hst] at HAl HCk; clear hos hst; generalize (⟨o'.2.name.toArray⟩ : ByteArray) = ON at *
         generalize o'.2.abst = oa at *
         generalize o'.2.params.length = o1 at *
         generalize (o'.2.ret.kind : Int) = ok' at *
         generalize (⟨o'.2.ret.name.toArray⟩ : ByteArray) = OR at *
         generalize (o'.2.locals : Int) = ol at *
         generalize o'.2.code.length = o2 at *
         generalize o'.2.catches.length = o3 at *
         go_wp2_with fail; generalize w5.alloc (.cells #[.string ON, .bool os, .bool oa, .slice tp o1 dp, .int .i64 ok', .string OR, .int .i64 ol, .slice tc o2 dc, .slice tk o3 dk] 48) = w6 at *
         have HX6 := hide ((HA6.out.block _ (Ow.lt_of_blk HX5.out)).trans HX5.out); have HB6 := hide (HB5.out.trans (HA6.out.mono HB5.out.size)); have HBw6 := hide (HB2.out.trans (HB6.out.mono HB2.out.size))
         have HS := hide (fun wz (hb : Below w6.heap.size w6 wz) => show wz.cell? ⟨w.heap.size, 5, none⟩ = some (.slice (some ⟨g, o, none⟩) nm mc) /\ wz.cell? ⟨w5.heap.size, 0, none⟩ = some (.string ON) /\ wz.cell? ⟨w5.heap.size, 1, none⟩ = some (.bool os) /\ wz.cell? ⟨w5.heap.size, 2, none⟩ = some (.bool oa) /\ wz.cell? ⟨w5.heap.size, 3, none⟩ = some (.slice tp o1 dp) /\ wz.cell? ⟨w5.heap.size, 4, none⟩ = some (.int .i64 ok') /\ wz.cell? ⟨w5.heap.size, 5, none⟩ = some (.string OR) /\ wz.cell? ⟨w5.heap.size, 6, none⟩ = some (.int .i64 ol) /\ wz.cell? ⟨w5.heap.size, 7, none⟩ = some (.slice tc o2 dc) /\ wz.cell? ⟨w5.heap.size, 8, none⟩ = some (.slice tk o3 dk) /\ wz.cell? ⟨g, o + k * 9, none⟩ = some (.string ⟨m.name.toArray⟩) /\ wz.cell? ⟨g, o + k * 9 + 1, none⟩ = some (.bool st) /\ wz.cell? ⟨g, o + k * 9 + 2, none⟩ = some (.bool m.abst) /\ wz.cell? ⟨g, o + k * 9 + 3, none⟩ = some (.slice ap m.params.length cp) /\ wz.cell? ⟨g, o + k * 9 + 4, none⟩ = some (.int .i64 m.ret.kind) /\ wz.cell? ⟨g, o + k * 9 + 5, none⟩ = some (.string ⟨m.ret.name.toArray⟩) /\ wz.cell? ⟨g, o + k * 9 + 6, none⟩ = some (.int .i64 m.locals) /\ wz.cell? ⟨g, o + k * 9 + 7, none⟩ = some (.slice ac m.code.length cc) /\ wz.cell? ⟨g, o + k * 9 + 8, none⟩ = some (.slice ak m.catches.length ck) from by
          have hz := (hb.block _ (Ow.lt_of_blk HX6.out)).trans HX6.out; have hy := (hb.block _ (Ow.lt_of_blk HM6.out)).trans HM6.out; have hr := fun j u (e : [.string ⟨m.name.toArray⟩, .bool st, .bool m.abst, .slice ap m.params.length cp, .int .i64 m.ret.kind, .string ⟨m.ret.name.toArray⟩, .int .i64 m.locals, .slice ac m.code.length cc, .slice ak m.catches.length ck][j]? = some u) => HCk.out wz (HBw6.out.trans (hb.mono HBw6.out.size)) j u e; refine ⟨cell_box hz 5, cell_box hy 0, cell_box hy 1, cell_box hy 2, cell_box hy 3, cell_box hy 4, cell_box hy 5, cell_box hy 6, cell_box hy 7, cell_box hy 8, ?_, hr 1 _ rfl, hr 2 _ rfl, hr 3 _ rfl, hr 4 _ rfl, hr 5 _ rfl, hr 6 _ rfl, hr 7 _ rfl, hr 8 _ rfl⟩; have h0 := hr 0 _ rfl; rw [Nat.add_zero] at h0
          exact h0)
         have HBz : Hid (Below w6.heap.size w6 w6.drew) := hide (Below.drew (Below.refl _ _)); clear HCk HX5 HX6 HM6; by_cases hs : os = st
         · subst hs
           have HCl3 : Hid (cl = !al) := hide (by rw [HCl2.out]; cases os <;> simp)
           clear HCl2; have hss : (os != os) = false := by simp
           have hne2 := ba_ne hne1
           go_region_held3 (fun wz => wz.cell? ⟨w.heap.size, 5, none⟩ = some (.slice (some ⟨g, o, none⟩) nm mc) /\ wz.cell? ⟨w5.heap.size, 0, none⟩ = some (.string ON) /\ wz.cell? ⟨w5.heap.size, 1, none⟩ = some (.bool os) /\ wz.cell? ⟨w5.heap.size, 2, none⟩ = some (.bool oa) /\ wz.cell? ⟨w5.heap.size, 3, none⟩ = some (.slice tp o1 dp) /\ wz.cell? ⟨w5.heap.size, 4, none⟩ = some (.int .i64 ok') /\ wz.cell? ⟨w5.heap.size, 5, none⟩ = some (.string OR) /\ wz.cell? ⟨w5.heap.size, 6, none⟩ = some (.int .i64 ol) /\ wz.cell? ⟨w5.heap.size, 7, none⟩ = some (.slice tc o2 dc) /\ wz.cell? ⟨w5.heap.size, 8, none⟩ = some (.slice tk o3 dk) /\ wz.cell? ⟨g, o + k * 9, none⟩ = some (.string ⟨m.name.toArray⟩) /\ wz.cell? ⟨g, o + k * 9 + 1, none⟩ = some (.bool os) /\ wz.cell? ⟨g, o + k * 9 + 2, none⟩ = some (.bool m.abst) /\ wz.cell? ⟨g, o + k * 9 + 3, none⟩ = some (.slice ap m.params.length cp) /\ wz.cell? ⟨g, o + k * 9 + 4, none⟩ = some (.int .i64 m.ret.kind) /\ wz.cell? ⟨g, o + k * 9 + 5, none⟩ = some (.string ⟨m.ret.name.toArray⟩) /\ wz.cell? ⟨g, o + k * 9 + 6, none⟩ = some (.int .i64 m.locals) /\ wz.cell? ⟨g, o + k * 9 + 7, none⟩ = some (.slice ac m.code.length cc) /\ wz.cell? ⟨g, o + k * 9 + 8, none⟩ = some (.slice ak m.catches.length ck)) (exact HS.out _ HBz.out)
            (first
              | (go_at_call 37
                 with_reducible refine (HAl.out _ (HA6.out.trans (HBz.out.mono HA6.out.size))).mono ?_
                 rintro e w7 ⟨rfl, hb7⟩; have HBz := hide (HBz.out.trans (hb7.mono HBz.out.size))
                 clear hb7)
              | fail)
           all_goals
            have HB7 := hide (HB6.out.trans (HBz.out.mono HB6.out.size)); cases al with
            | true =>
              have HA2 := hide (HGood.out HCl3.out); clear HBad HGood HAl HS; go_wp2_with fail
              go_roundw
              case rel => exact ⟨k + 1, by omega, by go_num, HB7, HA2⟩
              case measure => simp [intOf]; omega
            | false =>
              have HF := hide (HBad.out HCl3.out); clear HBad HGood HAl HS; go_wp2_with fail; go_ret; exact ⟨by rw [HF.out]; rfl, HB2.out.trans (HB7.out.mono HB2.out.size)⟩
         · have hss : (os != st) = true := by cases os <;> cases st <;> simp at hs ⊢
           have HF := hide (HBad.out (by rw [HCl2.out, hss]; rfl))
           have hne2 := ba_ne hne1; obtain ⟨q0, q1, q2, q3, q4, q5, q6, q7, q8, q9, q10, q11, q12, q13, q14, q15, q16, q17, q18⟩ := HS.out w6 (Below.refl _ _)
           go_quiet (fail)
           clear HBad HGood HAl HS; go_wp2_with fail; go_ret; exact ⟨by rw [HF.out]; rfl, HB2.out.trans ((by first | exact HB6.out | exact below_drewN HB6.out _ : Below w2.heap.size w2 _).mono HB2.out.size)⟩
     · have HF := hide (H0.out HFl.out (Ly.any_end HA.out (by rw [<- HNm.out]; omega)))
       have hnl : ¬ ((k : Int) < (nm : Int)) := by omega
       clear HA; go_wp2_with fail; go_ret; exact ⟨by rw [HF.out]; rfl, HBw.out⟩
end Go.Proofs.YtbbbnciejmdpfabGreatDoor

/- What the laws of this seat lean on: 1 texts. -/
import Derived.Test.YtbbbnciejmdpfabGreatDoorPkBi
import Derived.Test.YtbbbnciejmdpfabGreatDoorPkBl
set_option maxRecDepth 100000
set_option maxHeartbeats 64000000
set_option linter.unusedVariables false
set_option linter.unusedSimpArgs false
namespace Go.Proofs.YtbbbnciejmdpfabGreatDoor
open Go.RowKit
namespace Hr
theorem light_ifs {cs : List Pp.XCls} (h : Pp.Light cs) : ∀ c ∈ allL cs, c.ifaces.length <= 1000 := by
 intro c hc
 rcases List.mem_append.1 hc with hc | hc
 · simp only [base, subs, List.map_cons, List.map_nil, List.mem_cons, List.not_mem_nil, or_false] at hc
   rcases hc with rfl | rfl | rfl | rfl | rfl | rfl | rfl | rfl <;> exact Nat.zero_le _
 · have := (h.2 c hc).1.2.2.1; omega
end Hr
theorem RHier_any (cs : List Pp.XCls) (v : Value) (w : World) (h : ProgX w v cs) (hl : Pp.Light cs) :
 Calls Tryz.prog 11 #[.agg #[v]] w fun e w' => e = .returned (.int .i64 (Hr.errL cs)) /\ Below w.heap.size w w' := by
 have HSh := hide (fun wx (hb : Below w.heap.size w wx) => Shown_any cs v wx (h.on hb)); have HAl := hide (fun wx (hb : Below w.heap.size w wx) => RAll_any cs v wx (h.on hb) hl); have HIf0 := hide (Hr.light_ifs hl); have HM0 : Hid ((Hr.allL cs).length <= 22) := hide (by show (Hr.base ++ cs).length <= 22; rw [List.length_append]; show 8 + cs.length <= 22; have := hl.1; omega)
 obtain ⟨pa, pc, rfl, _⟩ := h.1.len; generalize cs.length = n at *
 clear h hl; have HX := hide (heap_alloc_new w (.cells #[.slice pa n pc] 24)); have HB0 := hide ((Below.refl w.heap.size w).alloc (Nat.le_refl _) (.cells #[.slice pa n pc] 24)); go_enter Tryz.func11, Tryz.ntmps11; go_wp2_with fail; generalize w.alloc (.cells #[.slice pa n pc] 24) = w0 at *
 refine (HSh.out w0 HB0.out).mono ?_; rintro e ws ⟨rfl, hbs⟩; have HBs := hide (HB0.out.trans (hbs.mono HB0.out.size)); have c0 := cell_box ((hbs.block _ (Ow.lt_of_blk HX.out)).trans HX.out) 0; clear hbs HB0 HX HSh; cases hpb : Pp.progB cs with
 | false =>
   have HE : Hid (Hr.errL cs = 4) := hide (Hr.err_form (by rw [hpb]; decide))
   clear hpb; go_wp2_with fail; go_ret; rw [HE.out]; exact ⟨rfl, HBs.out⟩
 | true =>
   have HPB := hide hpb; clear hpb; go_wp2_with fail; refine (HAl.out ws HBs.out).mono ?_; rintro e w1 ⟨vl, rfl, hol, hb1⟩; have HW := hide (HBs.out.trans (hb1.mono HBs.out.size)); obtain ⟨l, hl⟩ : ∃ l, l = Hr.allL cs := ⟨_, rfl⟩; have HLL := hide hl; rw [<- hl] at hol HIf0 HM0; have HRow : Hid (∀ wy, Below w1.heap.size w1 wy -> RowX wy 6 (ClsX wy) vl l) := hide fun wy hb => (hol.row Ow.shp_cls fun _ _ h => h.x).on hb fun _ _ h => h.on hb; obtain ⟨la, lc, rfl⟩ := hol.shape; have hl0 : l[0]? = some (Hr.plain Hr.objN []) := by rw [hl]; rfl
   obtain ⟨g, o, rfl, -⟩ := Hr.row_at (HRow.out w1 (Below.refl _ _)) hl0; obtain ⟨m, hm⟩ : ∃ q, q = l.length := ⟨_, rfl⟩; have HM := hide hm; rw [<- hm] at HRow HM0 ⊢; have hm22 : m <= 22 := HM0.out; have HIf := hide HIf0.out
   have HCl : Hid (∀ wy, Below w1.heap.size w1 wy -> ∀ (k : Nat) (x : Pp.XCls), l[k]? = some x -> wy.cell? ⟨g, o + k * 6, none⟩ = some (.string ⟨x.name.toArray⟩) /\ wy.cell? ⟨g, o + k * 6 + 1, none⟩ = some (.bool x.iface)) := hide (by
    intro wy hb k x hx; obtain ⟨g1, o1, eg1, ys1, w1', hc1⟩ := Hr.row_at (HRow.out w1 (Below.refl _ _)) hx; cases eg1; obtain ⟨vp, vc, vk, rfl, -⟩ := w1'
    exact ⟨hc1 wy hb 0 _ rfl, hc1 wy hb 1 _ rfl⟩)
   have HA : Hid (∀ wy, Below w1.heap.size w1 wy -> ∀ s : Pp.Bs, Calls Tryz.prog 27 #[.slice (some ⟨g, o, none⟩) m lc, .string ⟨s.toArray⟩] wy fun e w' => e = .returned (.int .i64 (Hr.placeI (Hr.placeL l s))) /\ Below wy.heap.size wy w') := hide fun wy hb s => RAt_any l _ s wy (HRow.out wy hb) (by rw [<- hm]; unfold maxLen; omega)
   clear hb1 hol hl hl0 hm HIf0 HM0 HAl c0 HBs; go_wp2_with fail
   go_loopw [4] (fun i wr => ∃ k : Nat, k <= m /\ i = .int .i64 k /\ Hid (Below w1.heap.size w1 wr) /\ Hid (∀ (j : Nat) (d : Pp.XCls), j < k -> l[j]? = some d -> Hr.placeL l d.name = some j)) (fun i _ => m - (intOf i).toNat)
   case atStart => exact ⟨0, Nat.zero_le _, rfl, hide (Below.refl _ _), hide fun j d hj => absurd hj (Nat.not_lt_zero _)⟩
   case round =>
    obtain ⟨k, hk, rfl, HB2, HOn⟩ := hrel; by_cases hlt : k < m
    · obtain ⟨x, hx⟩ : ∃ x, l[k]? = some x := ⟨l[k]'(by rw [<- HM.out]; exact hlt), List.getElem?_eq_getElem _⟩
      have HXk := hide hx; have r0 := (HCl.out wr HB2.out k x hx).1; have HAt := hide (HA.out wr HB2.out x.name); have hlt' : (k : Int) < (m : Int) := by omega
      have hmi : (m : Int) <= 100 := by omega
      obtain ⟨q, hq⟩ : ∃ q, Hr.placeL l x.name = some q := by
       cases hp : Hr.placeL l x.name with
       | none => exact absurd rfl (Hr.placeL_none.1 hp k x hx)
       | some q => exact ⟨q, rfl⟩
      rw [hq] at HAt; simp only [Hr.placeI] at HAt; have HQ := hide hq; clear hx hq; generalize (⟨x.name.toArray⟩ : ByteArray) = nb at *
      by_cases hqk : q = k
      · subst hqk
        have HO2 : Hid (∀ (j : Nat) (d : Pp.XCls), j < q + 1 -> l[j]? = some d -> Hr.placeL l d.name = some j) := hide fun j d hj hd => by
         rcases Nat.lt_or_eq_of_le (Nat.le_of_lt_succ hj) with h | rfl
         · exact HOn.out j d h hd
         · have := HXk.out; rw [hd] at this; cases this; exact HQ.out
        clear HOn; go_wp2_with fail; refine HAt.out.mono ?_; rintro e w3 ⟨rfl, hb3⟩; have HB3 := hide (HB2.out.trans (hb3.mono HB2.out.size)); clear hb3 r0 HAt HB2; go_wp2_with fail
        go_roundw
        case rel => first | exact ⟨q + 1, by omega, by go_num, HB3, HO2⟩ | ((repeat apply Exists.intro); exact ⟨⟨q + 1, by omega, by go_num, HB3, HO2⟩, rfl⟩)
        case measure => simp [intOf]; omega
      · have HE : Hid (Hr.errL cs = 6) := hide (Hr.err_twice HPB.out (by
         rw [<- HLL.out]; cases hb : Hr.oneB l with
         | false => rfl
         | true =>
           have h1 := (Hr.oneB_iff l).1 hb k x HXk.out; rw [HQ.out] at h1; cases h1
           exact absurd rfl hqk))
        have hqk' : ((q : Int) != (k : Int)) = true := by simp; omega
        have hqk2 : (q : Int) ≠ (k : Int) := by omega
        go_wp2_with fail; refine HAt.out.mono ?_; rintro e w3 ⟨rfl, hb3⟩; have HB3 := hide (HW.out.trans ((HB2.out.trans (hb3.mono HB2.out.size)).mono HW.out.size)); clear hb3 r0 HAt HB2; go_wp2_with fail; go_ret; rw [HE.out]; exact ⟨rfl, HB3.out⟩
    · have HON : Hid (Hr.oneB l = true) := hide ((Hr.oneB_iff l).2 fun j d hd => HOn.out j d (by have := (List.getElem?_eq_some_iff.1 hd).1; have := HM.out; omega) hd)
      have hnl : ¬ ((k : Int) < (m : Int)) := by omega
      have HNone : Hid (∀ x, ∀ {k}, l[k]? = some x -> Hr.upsL l x = none -> Hr.errL cs = 5) := hide (by
       intro x k hx hu; have h1 := Hr.growL_step (l := l) hx; rw [hu] at h1; have h2 : Hr.growL l (l.take (k + 1)) = none := by rw [h1]; cases Hr.growL l (l.take k) <;> rfl
       have h3 := Hr.growL_take h2; have h4 := HON.out; rw [HLL.out] at h3 h4
       exact Hr.err_none HPB.out h4 h3)
      clear HOn; go_wp2_with fail
      go_loopw [5] (fun i wr => ∃ k : Nat, k <= m /\ i = .int .i64 k /\ Hid (Below w1.heap.size w1 wr) /\ Hid (∃ r, Hr.growL l (l.take k) = some r)) (fun i _ => m - (intOf i).toNat)
      case atStart => exact ⟨0, Nat.zero_le _, rfl, HB2, hide ⟨[], rfl⟩⟩
      case round =>
       obtain ⟨k, hk, rfl, HBr, HG⟩ := hrel; clear HB2; by_cases hlt : k < m
       · obtain ⟨x, hx⟩ : ∃ x, l[k]? = some x := ⟨l[k]'(by rw [<- HM.out]; exact hlt), List.getElem?_eq_getElem _⟩
         obtain ⟨g1, o1, eg1, ys1, w1', hc1⟩ := Hr.row_at (HRow.out w1 (Below.refl _ _)) hx; cases eg1; have HXk := hide hx; have HSu := hide (RSuper_any x ys1 wr (w1'.on HBr.out)); have HC := hide hc1; have hr := hc1 wr HBr.out
         obtain ⟨va1, vd1, va2, vd2, va3, vd3, HI1, rfl⟩ : ∃ va1 vd1 va2 vd2 va3 vd3, Hid (RowX w1 1 StrX (.slice va1 x.ifaces.length vd1) x.ifaces) /\ ys1 = [.string ⟨x.name.toArray⟩, .bool x.iface, .string ⟨x.super.toArray⟩, .slice va1 x.ifaces.length vd1, .slice va2 x.fields.length vd2, .slice va3 x.methods.length vd3] := by
          obtain ⟨vp, vc, vk, rfl, x1, x2, x3, _⟩ := w1'; obtain ⟨va1, vd1, rfl, _⟩ := x1.len; obtain ⟨va2, vd2, rfl, _⟩ := x2.len; obtain ⟨va3, vd3, rfl, _⟩ := x3.len; exact ⟨_, _, _, _, _, _, hide x1, rfl⟩
         have HF := hide (fun wy (hb : Below w1.heap.size w1 wy) => HC.out wy hb 3 _ rfl); have r0 := hr 0 _ rfl; have r1 := hr 1 _ rfl; have r2 := hr 2 _ rfl; have r3 := hr 3 _ rfl; have r4 := hr 4 _ rfl; have r5 := hr 5 _ rfl; rw [Nat.add_zero] at r0; have hlt' : (k : Int) < (m : Int) := by omega
         have hmi : (m : Int) <= 100 := by omega
         clear hc1 hr hx w1' HC; go_wp2_with fail; refine HSu.out.mono ?_; rintro e w2 ⟨rfl, hb2⟩; have HB3 := hide (HBr.out.trans (hb2.mono HBr.out.size)); clear hb2 r0 r1 r2 r3 r4 r5 HSu HBr; by_cases hs : Hr.superS x = []
         · have HSup : Hid (Hr.supL l x = some []) := hide (by unfold Hr.supL; rw [Hr.superS_nil hs])
           have HSa : Hid (∃ a, Hr.supL l x = some a) := hide ⟨_, HSup.out⟩; rw [hs]; clear hs; have HFc := hide (HIf.out x (List.mem_of_getElem? HXk.out)); obtain ⟨fl, hfl⟩ : ∃ q, q = x.ifaces.length := ⟨_, rfl⟩; have HFL := hide hfl; rw [<- hfl] at HI1 HF HFc; clear hfl; have hfc : fl <= 1000 := HFc.out; go_wp2_with fail
           go_loopw [7] (fun i wr => ∃ j : Nat, j <= fl /\ i = .int .i64 j /\ Hid (Below w1.heap.size w1 wr) /\ Hid (∃ r, Hr.ifsL l (x.ifaces.take j) = some r)) (fun i _ => fl - (intOf i).toNat)
           case atStart => exact ⟨0, Nat.zero_le _, rfl, HB3, hide ⟨[], rfl⟩⟩
           case round =>
            obtain ⟨j, hj, rfl, HB4, HI4⟩ := hrel; clear HB3; have c3 := HF.out wr HB4.out; by_cases hlj : j < fl
            · obtain ⟨y, hy⟩ : ∃ y, x.ifaces[j]? = some y := ⟨x.ifaces[j]'(by rw [<- HFL.out]; exact hlj), List.getElem?_eq_getElem _⟩
              obtain ⟨g5, o5, eg5, ys5, hys5, hc5⟩ := Hr.row_at HI1.out hy; subst eg5; obtain rfl : ys5 = _ := hys5.1; have r5 := hc5 wr HB4.out 0 _ rfl; simp only [Nat.mul_one, Nat.add_zero] at r5; have HY := hide hy; have HAt := hide (HA.out wr HB4.out y); have hlj' : (j : Int) < (fl : Int) := by omega
              have hfi : (fl : Int) <= 1000 := by omega
              clear hc5 hy hys5; cases hpl : Hr.placeL l y with
              | none =>
                have HE : Hid (Hr.errL cs = 5) := hide (HNone.out x HXk.out (by
                 have h1 := Hr.ifsL_step (l := l) HY.out; obtain ⟨r, hr⟩ := HI4.out; rw [hr, show Hr.upL l true y = none from by unfold Hr.upL; rw [hpl]] at h1
                 have h2 := Hr.ifsL_take h1; unfold Hr.upsL
                 rw [HSup.out, h2]; rfl))
                rw [hpl] at HAt; simp only [Hr.placeI] at HAt; clear hpl; generalize (⟨y.toArray⟩ : ByteArray) = yb at *
                go_wp2_with fail; refine HAt.out.mono ?_; rintro e w6 ⟨rfl, hb6⟩; have HB6 := hide (HW.out.trans ((HB4.out.trans (hb6.mono HB4.out.size)).mono HW.out.size)); clear hb6 c3 r5; go_wp2_with fail; go_ret; rw [HE.out]; exact ⟨rfl, HB6.out⟩
              | some q =>
                obtain ⟨d, hdq, -, -⟩ := Hr.placeL_lt hpl; have HPQ := hide hpl; have HDQ := hide hdq; have hqm : q < m := by rw [HM.out]; exact (List.getElem?_eq_some_iff.1 hdq).1
                have HCq := hide (fun wy (hb : Below w1.heap.size w1 wy) => (HCl.out wy hb q d hdq).2); have hqm' : (q : Int) < (m : Int) := by omega
                have hmi : (m : Int) <= 100 := by omega
                rw [hpl] at HAt; simp only [Hr.placeI] at HAt; clear hpl hdq; generalize (⟨y.toArray⟩ : ByteArray) = yb at *
                go_wp2_with fail; refine HAt.out.mono ?_; rintro e w6 ⟨rfl, hb6⟩; have HB6 := hide (HB4.out.trans (hb6.mono HB4.out.size)); have r7 := HCq.out w6 HB6.out; clear hb6 c3 r5; cases hif : d.iface with
                | false =>
                  have HE : Hid (Hr.errL cs = 5) := hide (HNone.out x HXk.out (by
                   have h1 := Hr.ifsL_step (l := l) HY.out; obtain ⟨r, hr⟩ := HI4.out; rw [hr, show Hr.upL l true y = none from by unfold Hr.upL; rw [HPQ.out]; simp only [HDQ.out, hif]; rfl] at h1
                   have h2 := Hr.ifsL_take h1; unfold Hr.upsL
                   rw [HSup.out, h2]; rfl))
                  rw [hif] at r7; have HB7 := hide (HW.out.trans (HB6.out.mono HW.out.size)); clear hif; go_wp2_with fail; go_ret; rw [HE.out]; exact ⟨rfl, HB7.out⟩
                | true =>
                  have HI5 : Hid (∃ r, Hr.ifsL l (x.ifaces.take (j + 1)) = some r) := hide (by
                   have h1 := Hr.ifsL_step (l := l) HY.out; obtain ⟨r, hr⟩ := HI4.out; rw [hr, show Hr.upL l true y = some q from by unfold Hr.upL; rw [HPQ.out]; simp only [HDQ.out, hif]; rfl] at h1
                   exact ⟨_, h1⟩)
                  rw [hif] at r7; clear hif; go_wp2_with fail
                  go_roundw
                  case rel => first | exact ⟨j + 1, by omega, by go_num, HB6, HI5⟩ | ((repeat apply Exists.intro); exact ⟨⟨j + 1, by omega, by go_num, HB6, HI5⟩, rfl⟩)
                  case measure => simp [intOf]; omega
            · have HG' : Hid (∃ r, Hr.growL l (l.take (k + 1)) = some r) := hide (by
               obtain ⟨r, hr⟩ := HG.out; obtain ⟨r2, hr2⟩ := HI4.out; rw [List.take_of_length_le (by rw [<- HFL.out]; omega)] at hr2
               obtain ⟨a, ha⟩ := HSa.out; rw [Hr.growL_step HXk.out, hr, show Hr.upsL l x = some (a ++ r2) from by unfold Hr.upsL; rw [ha, hr2]; rfl]
               exact ⟨_, rfl⟩)
              have hnl : ¬ ((j : Int) < (fl : Int)) := by omega
              clear HI4; go_wp2_with fail
              go_roundw
              case rel => first | exact ⟨k + 1, by omega, by go_num, HB4, HG'⟩ | ((repeat apply Exists.intro); exact ⟨⟨k + 1, by omega, by go_num, HB4, HG'⟩, rfl⟩)
              case measure => simp [intOf]; omega
         · have hse : (Hr.superS x == []) = false := by simp [hs]
           have HSu := hide (Hr.superS_ne hs); clear hs; generalize Hr.superS x = s at *
           have HAs := hide (fun wy (hb : Below w1.heap.size w1 wy) => HA.out wy hb s); cases hpl : Hr.placeL l s with
           | none =>
             have HE : Hid (Hr.errL cs = 5) := hide (HNone.out x HXk.out (by
              unfold Hr.upsL Hr.supL; rw [HSu.out]; simp only
              rw [show Hr.upL l false s = none from by unfold Hr.upL; rw [hpl]]; rfl))
             rw [hpl] at HAs; simp only [Hr.placeI] at HAs; clear hpl; go_wp2_with fail; refine (HAs.out w2 HB3.out).mono ?_; rintro e w6 ⟨rfl, hb6⟩; have HB6 := hide (HW.out.trans ((HB3.out.trans (hb6.mono HB3.out.size)).mono HW.out.size)); clear hb6; go_wp2_with fail; go_ret; rw [HE.out]; exact ⟨rfl, HB6.out⟩
           | some q =>
             obtain ⟨d, hdq, -, -⟩ := Hr.placeL_lt hpl; have HPQ := hide hpl; have HDQ := hide hdq; have hqm : q < m := by rw [HM.out]; exact (List.getElem?_eq_some_iff.1 hdq).1
             have HCq := hide (fun wy (hb : Below w1.heap.size w1 wy) => (HCl.out wy hb q d hdq).2); have hqm' : (q : Int) < (m : Int) := by omega
             rw [hpl] at HAs; simp only [Hr.placeI] at HAs; clear hpl hdq; go_wp2_with fail; refine (HAs.out w2 HB3.out).mono ?_; rintro e w6 ⟨rfl, hb6⟩; have HB6 := hide (HB3.out.trans (hb6.mono HB3.out.size)); clear hb6 HB3; go_wp2_with fail; refine (HAs.out w6 HB6.out).mono ?_; rintro e w7 ⟨rfl, hb7⟩; have HB3 := hide (HB6.out.trans (hb7.mono HB6.out.size)); have r7 := HCq.out w7 HB3.out; clear hb7 HB6; cases hif : d.iface with
             | true =>
               have HE : Hid (Hr.errL cs = 5) := hide (HNone.out x HXk.out (by
                unfold Hr.upsL Hr.supL; rw [HSu.out]; simp only
                rw [show Hr.upL l false s = none from by unfold Hr.upL; rw [HPQ.out]; simp only [HDQ.out, hif]; rfl]; rfl))
               have HB6 := hide (HW.out.trans (HB3.out.mono HW.out.size)); rw [hif] at r7; clear hif; go_wp2_with fail; go_ret; rw [HE.out]; exact ⟨rfl, HB6.out⟩
             | false =>
               have HSup : Hid (Hr.supL l x = some [q]) := hide (by
                unfold Hr.supL; rw [HSu.out]; simp only
                rw [show Hr.upL l false s = some q from by unfold Hr.upL; rw [HPQ.out]; simp only [HDQ.out, hif]; rfl]; rfl)
               have HSa : Hid (∃ a, Hr.supL l x = some a) := hide ⟨_, HSup.out⟩; rw [hif] at r7; clear hif; go_wp2_with fail; clear r7; have HFc := hide (HIf.out x (List.mem_of_getElem? HXk.out)); obtain ⟨fl, hfl⟩ : ∃ q, q = x.ifaces.length := ⟨_, rfl⟩; have HFL := hide hfl; rw [<- hfl] at HI1 HF HFc; clear hfl; have hfc : fl <= 1000 := HFc.out; go_wp2_with fail
               go_loopw [7] (fun i wr => ∃ j : Nat, j <= fl /\ i = .int .i64 j /\ Hid (Below w1.heap.size w1 wr) /\ Hid (∃ r, Hr.ifsL l (x.ifaces.take j) = some r)) (fun i _ => fl - (intOf i).toNat)
               case atStart => exact ⟨0, Nat.zero_le _, rfl, HB3, hide ⟨[], rfl⟩⟩
               case round =>
                obtain ⟨j, hj, rfl, HB4, HI4⟩ := hrel; clear HB3; have c3 := HF.out wr HB4.out; by_cases hlj : j < fl
                · obtain ⟨y, hy⟩ : ∃ y, x.ifaces[j]? = some y := ⟨x.ifaces[j]'(by rw [<- HFL.out]; exact hlj), List.getElem?_eq_getElem _⟩
                  obtain ⟨g5, o5, eg5, ys5, hys5, hc5⟩ := Hr.row_at HI1.out hy; subst eg5; obtain rfl : ys5 = _ := hys5.1; have r5 := hc5 wr HB4.out 0 _ rfl; simp only [Nat.mul_one, Nat.add_zero] at r5; have HY := hide hy; have HAt := hide (HA.out wr HB4.out y); have hlj' : (j : Int) < (fl : Int) := by omega
                  have hfi : (fl : Int) <= 1000 := by omega
                  clear hc5 hy hys5; cases hpl : Hr.placeL l y with
                  | none =>
                    have HE : Hid (Hr.errL cs = 5) := hide (HNone.out x HXk.out (by
                     have h1 := Hr.ifsL_step (l := l) HY.out; obtain ⟨r, hr⟩ := HI4.out; rw [hr, show Hr.upL l true y = none from by unfold Hr.upL; rw [hpl]] at h1
                     have h2 := Hr.ifsL_take h1; unfold Hr.upsL
                     rw [HSup.out, h2]; rfl))
                    rw [hpl] at HAt; simp only [Hr.placeI] at HAt; clear hpl; generalize (⟨y.toArray⟩ : ByteArray) = yb at *
                    go_wp2_with fail; refine HAt.out.mono ?_; rintro e w6 ⟨rfl, hb6⟩; have HB6 := hide (HW.out.trans ((HB4.out.trans (hb6.mono HB4.out.size)).mono HW.out.size)); clear hb6 c3 r5; go_wp2_with fail; go_ret; rw [HE.out]; exact ⟨rfl, HB6.out⟩
                  | some q =>
                    obtain ⟨d, hdq, -, -⟩ := Hr.placeL_lt hpl; have HPQ := hide hpl; have HDQ := hide hdq; have hqm : q < m := by rw [HM.out]; exact (List.getElem?_eq_some_iff.1 hdq).1
                    have HCq := hide (fun wy (hb : Below w1.heap.size w1 wy) => (HCl.out wy hb q d hdq).2); have hqm' : (q : Int) < (m : Int) := by omega
                    have hmi : (m : Int) <= 100 := by omega
                    rw [hpl] at HAt; simp only [Hr.placeI] at HAt; clear hpl hdq; generalize (⟨y.toArray⟩ : ByteArray) = yb at *
                    go_wp2_with fail; refine HAt.out.mono ?_; rintro e w6 ⟨rfl, hb6⟩; have HB6 := hide (HB4.out.trans (hb6.mono HB4.out.size)); have r7 := HCq.out w6 HB6.out; clear hb6 c3 r5; cases hif : d.iface with
                    | false =>
                      have HE : Hid (Hr.errL cs = 5) := hide (HNone.out x HXk.out (by
                       have h1 := Hr.ifsL_step (l := l) HY.out; obtain ⟨r, hr⟩ := HI4.out; rw [hr, show Hr.upL l true y = none from by unfold Hr.upL; rw [HPQ.out]; simp only [HDQ.out, hif]; rfl] at h1
                       have h2 := Hr.ifsL_take h1; unfold Hr.upsL
                       rw [HSup.out, h2]; rfl))
                      rw [hif] at r7; have HB7 := hide (HW.out.trans (HB6.out.mono HW.out.size)); clear hif; go_wp2_with fail; go_ret; rw [HE.out]; exact ⟨rfl, HB7.out⟩
                    | true =>
                      have HI5 : Hid (∃ r, Hr.ifsL l (x.ifaces.take (j + 1)) = some r) := hide (by
                       have h1 := Hr.ifsL_step (l := l) HY.out; obtain ⟨r, hr⟩ := HI4.out; rw [hr, show Hr.upL l true y = some q from by unfold Hr.upL; rw [HPQ.out]; simp only [HDQ.out, hif]; rfl] at h1
                       exact ⟨_, h1⟩)
                      rw [hif] at r7; clear hif; go_wp2_with fail
                      go_roundw
                      case rel => first | exact ⟨j + 1, by omega, by go_num, HB6, HI5⟩ | ((repeat apply Exists.intro); exact ⟨⟨j + 1, by omega, by go_num, HB6, HI5⟩, rfl⟩)
                      case measure => simp [intOf]; omega
                · have HG' : Hid (∃ r, Hr.growL l (l.take (k + 1)) = some r) := hide (by
                   obtain ⟨r, hr⟩ := HG.out; obtain ⟨r2, hr2⟩ := HI4.out; rw [List.take_of_length_le (by rw [<- HFL.out]; omega)] at hr2
                   obtain ⟨a, ha⟩ := HSa.out; rw [Hr.growL_step HXk.out, hr, show Hr.upsL l x = some (a ++ r2) from by unfold Hr.upsL; rw [ha, hr2]; rfl]
                   exact ⟨_, rfl⟩)
                  have hnl : ¬ ((j : Int) < (fl : Int)) := by omega
                  clear HI4; go_wp2_with fail
                  go_roundw
                  case rel => first | exact ⟨k + 1, by omega, by go_num, HB4, HG'⟩ | ((repeat apply Exists.intro); exact ⟨⟨k + 1, by omega, by go_num, HB4, HG'⟩, rfl⟩)
                  case measure => simp [intOf]; omega
       · have HG0 : Hid (∃ up, Hr.growL l l = some up) := hide (by
          have := HG.out
          rwa [List.take_of_length_le (by rw [<- HM.out]; omega)] at this)
         have hnl : ¬ ((k : Int) < (m : Int)) := by omega
         clear HG HNone; go_wp2_with fail
         go_loopw [9] (fun i wr => ∃ k : Nat, k <= m /\ i = .int .i64 k /\ Hid (Below w1.heap.size w1 wr) /\ Hid (∀ c ∈ l.take k, ∀ y ∈ Hr.aboveL c, ¬ Hr.NFar l y c.name)) (fun i _ => m - (intOf i).toNat)
         case atStart => exact ⟨0, Nat.zero_le _, rfl, HBr, hide (by simp)⟩
         case round =>
          obtain ⟨k, hk, rfl, HB2, HNF⟩ := hrel; clear HBr; by_cases hlt : k < m
          · obtain ⟨x, hx⟩ : ∃ x, l[k]? = some x := ⟨l[k]'(by rw [<- HM.out]; exact hlt), List.getElem?_eq_getElem _⟩
            obtain ⟨g1, o1, eg1, ys1, w1', hc1⟩ := Hr.row_at (HRow.out w1 (Below.refl _ _)) hx; cases eg1; have HXk := hide hx; have HAb := hide (above_any x ys1 wr (w1'.on HB2.out) (HIf.out x (List.mem_of_getElem? hx))); have HAL : Hid ((Hr.aboveL x).length <= 1001) := hide (Hr.above_len HIf.out (List.mem_of_getElem? hx)); have HN0 := hide (fun wy (hb : Below w1.heap.size w1 wy) => (HCl.out wy hb k x hx).1); have hr := hc1 wr HB2.out; obtain ⟨va1, vd1, va2, vd2, va3, vd3, rfl⟩ := Hr.at_c w1'; have r0 := hr 0 _ rfl; have r1 := hr 1 _ rfl; have r2 := hr 2 _ rfl; have r3 := hr 3 _ rfl; have r4 := hr 4 _ rfl; have r5 := hr 5 _ rfl; rw [Nat.add_zero] at r0; have hlt' : (k : Int) < (m : Int) := by omega
            have hmi : (m : Int) <= 100 := by omega
            clear hc1 hr hx w1'; go_wp2_with fail; refine HAb.out.mono ?_; rintro e w3 ⟨vn, rfl, hon, hb3⟩; have HB3 := hide (HB2.out.trans (hb3.mono HB2.out.size)); have HNr := hide (hon.row Ow.shp_str fun _ _ h => h); obtain ⟨na, nc, rfl⟩ := hon.shape; obtain ⟨p, hp⟩ : ∃ q, q = (Hr.aboveL x).length := ⟨_, rfl⟩; have HP := hide hp; rw [<- hp] at HNr HAL ⊢; have hp1 : p <= 1001 := HAL.out; have HNx := hide (fun c (hc : c ∈ l.take k) => HNF.out c hc); clear hb3 hon hp r0 r1 r2 r3 r4 r5 HAb; go_wp2_with fail
            go_loopw [11] (fun i wr => ∃ j : Nat, j <= p /\ i = .int .i64 j /\ Hid (Below w3.heap.size w3 wr) /\ Hid (∀ y ∈ (Hr.aboveL x).take j, ¬ Hr.NFar l y x.name)) (fun i _ => p - (intOf i).toNat)
            case atStart => exact ⟨0, Nat.zero_le _, rfl, hide (Below.refl _ _), hide (by simp)⟩
            case round =>
             obtain ⟨j, hj, rfl, HB4, HJ⟩ := hrel; have HBw := hide (HB3.out.trans (HB4.out.mono HB3.out.size)); by_cases hlj : j < p
             · obtain ⟨y, hy⟩ : ∃ y, (Hr.aboveL x)[j]? = some y := ⟨(Hr.aboveL x)[j]'(by rw [<- HP.out]; exact hlj), List.getElem?_eq_getElem _⟩
               obtain ⟨g5, o5, eg5, ys5, hys5, hc5⟩ := Hr.row_at HNr.out hy; subst eg5; obtain rfl : ys5 = _ := hys5.1; have HYl := hide hys5.2; have HY := hide hy; have HD : Hid (Below wr.heap.size wr wr.drew) := hide (Below.drew (Below.refl _ _)); have r5 := hc5 wr HB4.out 0 _ rfl; have r6 := hc5 wr.drew (HB4.out.trans (HD.out.mono HB4.out.size)) 0 _ rfl; simp only [Nat.mul_one, Nat.add_zero] at r5 r6; have n5 := HN0.out wr HBw.out; have n6 := HN0.out wr.drew (HBw.out.trans (HD.out.mono HBw.out.size)); have HRc := hide (reach_any l (.slice (some ⟨g, o, none⟩) m lc) y wr.drew (HRow.out _ (HBw.out.trans (HD.out.mono HBw.out.size))) (by rw [<- HM.out]; omega) HIf.out HYl.out)
               have hlj' : (j : Int) < (p : Int) := by omega
               have hpi : (p : Int) <= 1001 := by omega
               have HST : Hid (¬ Hr.NFar l y x.name -> ∀ z ∈ (Hr.aboveL x).take (j + 1), ¬ Hr.NFar l z x.name) := hide (by
                intro hn z hz; rw [List.take_add_one, HY.out, List.mem_append] at hz
                rcases hz with hz | hz
                · exact HJ.out z hz
                · simp at hz; subst hz; exact hn)
               have HE7 : Hid (Hr.NFar l y x.name -> Hr.errL cs = 7) := hide (by
                intro hn; obtain ⟨up, hg⟩ := HG0.out; have h1 := (Hr.ring_names ((Hr.oneB_iff l).1 HON.out) hg).1 ⟨x, List.mem_of_getElem? HXk.out, y, List.mem_of_getElem? HY.out, hn⟩; have h2 := HON.out; rw [HLL.out] at hg h2
                exact Hr.err_ring HPB.out h2 hg h1)
               clear hc5 hy hys5 HJ; generalize (⟨y.toArray⟩ : ByteArray) = yb at *
               go_wp2_with fail
               go_region_law (first
                | (go_simp
                   refine (HRc.out).mono ?_; rintro e w6 ⟨v6, out, rfl, ho6, hri, hb6⟩; have HB6 := hide (HBw.out.trans ((HD.out.trans (hb6.mono HD.out.size)).mono HBw.out.size)); have HB36 := hide (HB4.out.trans ((HD.out.trans (hb6.mono HD.out.size)).mono HB4.out.size)); have n7 := HN0.out w6 HB6.out; obtain ⟨a6, c6, rfl⟩ := ho6.shape
                   have HHas := hide (has_any out (.slice a6 out.length c6) x.name w6 (ho6.row Ow.shp_str fun _ _ h => h) (by
                    have h1 := hri.few; have h2 := Hr.most_le HIf.out; have h3 := HM.out; unfold Hr.mostL at h1; unfold maxLen
                    omega))
                   obtain ⟨bb, hbb⟩ : ∃ q, q = decide (x.name ∈ out) := ⟨_, rfl⟩; have HBB : Hid (bb = true ↔ Hr.NFar l y x.name) := hide (by rw [hbb, decide_eq_true_eq]; exact hri.stop x.name)
                   rw [<- hbb] at HHas
                   clear hb6 ho6 hri hbb)
                | (go_simp
                   refine (HHas.out).mono ?_; rintro e w7 ⟨rfl, hb7⟩; have HB7 := hide (HB6.out.trans (hb7.mono HB6.out.size)); have HB37 := hide (HB36.out.trans (hb7.mono HB36.out.size))
                   clear hb7))
               all_goals
                cases bb with
                | true =>
                  have HE := hide (HE7.out (HBB.out.1 rfl)); have HB8 := hide (HW.out.trans (HB7.out.mono HW.out.size)); clear HHas HRc n5 n6 n7 r5 r6; go_wp2_with fail; go_ret; rw [HE.out]; exact ⟨rfl, HB8.out⟩
                | false =>
                  have HJ2 := hide (HST.out fun h => Bool.noConfusion (HBB.out.2 h)); clear HHas HRc n5 n6 n7 r5 r6; go_wp2_with fail
                  go_roundw
                  case rel => first | exact ⟨j + 1, by omega, by go_num, HB37, HJ2⟩ | ((repeat apply Exists.intro); exact ⟨⟨j + 1, by omega, by go_num, HB37, HJ2⟩, rfl⟩)
                  case measure => simp [intOf]; omega
             · have HNF2 : Hid (∀ c ∈ l.take (k + 1), ∀ y ∈ Hr.aboveL c, ¬ Hr.NFar l y c.name) := hide (by
                intro c hc; rw [List.take_add_one, HXk.out, List.mem_append] at hc
                rcases hc with hc | hc
                · exact HNF.out c hc
                · simp at hc; subst hc
                  have := HJ.out; rw [List.take_of_length_le (by rw [<- HP.out]; omega)] at this
                  exact this)
               have hnl : ¬ ((j : Int) < (p : Int)) := by omega
               clear HJ; go_wp2_with fail
               go_roundw
               case rel => first | exact ⟨k + 1, by omega, by go_num, HBw, HNF2⟩ | ((repeat apply Exists.intro); exact ⟨⟨k + 1, by omega, by go_num, HBw, HNF2⟩, rfl⟩)
               case measure => simp [intOf]; omega
          · have HE : Hid (Hr.errL cs = 0) := hide (by
             obtain ⟨up, hg⟩ := HG0.out; have h2 := HON.out
             have h3 : ¬ Hr.Ring up := fun hr => by
              obtain ⟨c, hc, y, hy, hn⟩ := (Hr.ring_names ((Hr.oneB_iff l).1 HON.out) hg).2 hr; have := HNF.out; rw [List.take_of_length_le (by rw [<- HM.out]; omega)] at this
              exact this c hc y hy hn
             rw [HLL.out] at hg h2
             exact Hr.err_ok HPB.out h2 hg h3)
            have hnl : ¬ ((k : Int) < (m : Int)) := by omega
            have HB5 := hide (HW.out.trans (HB2.out.mono HW.out.size)); go_wp2_with fail; go_ret; rw [HE.out]; exact ⟨rfl, HB5.out⟩
end Go.Proofs.YtbbbnciejmdpfabGreatDoor

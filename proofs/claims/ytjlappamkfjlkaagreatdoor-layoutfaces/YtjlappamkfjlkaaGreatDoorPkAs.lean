/- What the laws of this seat lean on: 3 texts. -/
import Derived.Test.YtjlappamkfjlkaaGreatDoorPkAp
import Derived.Test.YtjlappamkfjlkaaGreatDoorPkAr
import Derived.Test.YtjlappamkfjlkaaGreatDoorPkAo
import Derived.Test.YtjlappamkfjlkaaGreatDoorPkAk
set_option maxRecDepth 100000
set_option maxHeartbeats 64000000
set_option linter.unusedVariables false
set_option linter.unusedSimpArgs false
namespace Go.Proofs.YtjlappamkfjlkaaGreatDoor
open Go.RowKit
namespace Hr
theorem light_ifs {cs : List Pp.XCls} (h : Pp.Light cs) : ∀ c ∈ allL cs, c.ifaces.length <= 1000 := by
 intro c hc
 rcases List.mem_append.1 hc with hc | hc
 · simp only [base, subs, List.map_cons, List.map_nil, List.mem_cons, List.not_mem_nil, or_false] at hc
   rcases hc with rfl | rfl | rfl | rfl | rfl | rfl | rfl | rfl <;> exact Nat.zero_le _
 · have := (h.2 c hc).1.2.2.1; omega
end Hr
theorem RHier_any (cs : List Pp.XCls) (v : Value) (w : World) (h : ProgX w v cs) (hl : Pp.Light cs) :
 Calls Tryz.prog 33 #[.agg #[v]] w fun e w' => e = .returned (.int .i64 (Hr.errL cs)) /\ Below w.heap.size w w' := by
 have HSh := hide (fun wx (hb : Below w.heap.size w wx) => Shown_any cs v wx (h.on hb)); have HAl := hide (fun wx (hb : Below w.heap.size w wx) => RAll_any cs v wx (h.on hb) hl); have HIf0 := hide (Hr.light_ifs hl); have HM0 : Hid ((Hr.allL cs).length <= 22) := hide (by show (Hr.base ++ cs).length <= 22; rw [List.length_append]; show 8 + cs.length <= 22; have := hl.1; omega)
 obtain ⟨pa, pc, rfl, _⟩ := h.1.len; generalize cs.length = n at *
 clear h hl; have HX := hide (heap_alloc_new w (.cells #[.slice pa n pc] 24)); have HB0 := hide ((Below.refl w.heap.size w).alloc (Nat.le_refl _) (.cells #[.slice pa n pc] 24)); go_enter Tryz.func33, Tryz.ntmps33; go_wp2_with fail; generalize w.alloc (.cells #[.slice pa n pc] 24) = w0 at *
 refine (HSh.out w0 HB0.out).mono ?_; rintro e ws ⟨rfl, hbs⟩; have HBs := hide (HB0.out.trans (hbs.mono HB0.out.size)); have c0 := cell_box ((hbs.block _ (Ow.lt_of_blk HX.out)).trans HX.out) 0; clear hbs HB0 HX HSh; cases hpb : Pp.progB cs with
 | false =>
   have HE : Hid (Hr.errL cs = 4) := hide (Hr.err_form (by rw [hpb]; decide))
   clear hpb; go_wp2_with fail; go_ret; rw [HE.out]; exact ⟨rfl, HBs.out⟩
 | true =>
   have HPB := hide hpb; clear hpb; go_wp2_with fail; refine (HAl.out ws HBs.out).mono ?_; rintro e w1 ⟨vl, rfl, hol, hb1⟩; have HW := hide (HBs.out.trans (hb1.mono HBs.out.size)); obtain ⟨l, hl⟩ : ∃ l, l = Hr.allL cs := ⟨_, rfl⟩; have HLL := hide hl; rw [<- hl] at hol HIf0 HM0; have HRow : Hid (∀ wy, Below w1.heap.size w1 wy -> RowX wy 6 (ClsX wy) vl l) := hide fun wy hb => (hol.row Ow.shp_cls fun _ _ h => h.x).on hb fun _ _ h => h.on hb; obtain ⟨la, lc, rfl⟩ := hol.shape; have hl0 : l[0]? = some (Hr.plain Hr.objN []) := by rw [hl]; rfl
   obtain ⟨g, o, rfl, -⟩ := Hr.row_at (HRow.out w1 (Below.refl _ _)) hl0; obtain ⟨m, hm⟩ : ∃ q, q = l.length := ⟨_, rfl⟩; have HM := hide hm; rw [<- hm] at HRow HM0 ⊢; have hm22 : m <= 22 := HM0.out; have HIf := hide HIf0.out
   have HCl : Hid (∀ wy, Below w1.heap.size w1 wy -> ∀ (k : Nat) (x : Pp.XCls), l[k]? = some x -> wy.cell? ⟨g, o + k * 6, none⟩ = some (.string ⟨x.name.toArray⟩) /\ wy.cell? ⟨g, o + k * 6 + 1, none⟩ = some (.bool x.iface)) := hide (by
    intro wy hb k x hx; obtain ⟨g1, o1, eg1, ys1, w1', hc1⟩ := Hr.row_at (HRow.out w1 (Below.refl _ _)) hx; cases eg1; obtain ⟨vp, vc, vk, rfl, -⟩ := w1'
    exact ⟨hc1 wy hb 0 _ rfl, hc1 wy hb 1 _ rfl⟩)
   have HA : Hid (∀ wy, Below w1.heap.size w1 wy -> ∀ s : Pp.Bs, Calls Tryz.prog 31 #[.slice (some ⟨g, o, none⟩) m lc, .string ⟨s.toArray⟩] wy fun e w' => e = .returned (.int .i64 (Hr.placeI (Hr.placeL l s))) /\ Below wy.heap.size wy w') := hide fun wy hb s => RAt_any l _ s wy (HRow.out wy hb) (by rw [<- hm]; unfold maxLen; omega)
   clear hb1 hol hl hl0 hm HIf0 HM0 HAl c0 HBs; go_wp2_with fail
   go_loopw [4] (fun i wr => ∃ k : Nat, k <= m /\ i = .int .i64 k /\ Hid (Below w1.heap.size w1 wr) /\ Hid (∀ (j : Nat) (d : Pp.XCls), j < k -> l[j]? = some d -> Hr.placeL l d.name = some j)) (fun i _ => m - (intOf i).toNat)
   case atStart => exact ⟨0, Nat.zero_le _, rfl, hide (Below.refl _ _), hide fun j d hj => absurd hj (Nat.not_lt_zero _)⟩
   case round =>
    obtain ⟨k, hk, rfl, HB2, HOn⟩ := hrel; by_cases hlt : k < m
    · obtain ⟨x, hx⟩ : ∃ x, l[k]? = some x := ⟨l[k]'(by rw [<- HM.out]; exact hlt), List.getElem?_eq_getElem _⟩
      have HXk := hide hx; have r0 := (HCl.out wr HB2.out k x hx).1; have HAt := hide (HA.out wr HB2.out x.name); have hlt' : (k : Int) < (m : Int) := by omega
      have hmi : (m : Int) <= 100 := by omega
      obtain ⟨q, hq⟩ : ∃ q, Hr.placeL l x.name = some q := by
       cases hp : Hr.placeL l x.name with
       | none => exact absurd rfl (Hr.placeL_none.1 hp k x hx)
       | some q => exact ⟨q, rfl⟩
      rw [hq] at HAt; simp only [Hr.placeI] at HAt; have HQ := hide hq; clear hx hq; generalize (⟨x.name.toArray⟩ : ByteArray) = nb at *
      by_cases hqk : q = k
      · subst hqk
        have HO2 : Hid (∀ (j : Nat) (d : Pp.XCls), j < q + 1 -> l[j]? = some d -> Hr.placeL l d.name = some j) := hide fun j d hj hd => by
         rcases Nat.lt_or_eq_of_le (Nat.le_of_lt_succ hj) with h | rfl
         · exact HOn.out j d h hd
         · have := HXk.out; rw [hd] at this; cases this; exact HQ.out
        clear HOn; go_wp2_with fail; refine HAt.out.mono ?_; rintro e w3 ⟨rfl, hb3⟩; have HB3 := hide (HB2.out.trans (hb3.mono HB2.out.size)); clear hb3 r0 HAt HB2; go_wp2_with fail
        go_roundw
        case rel => first | exact ⟨q + 1, by omega, by go_num, HB3, HO2⟩ | ((repeat apply Exists.intro); exact ⟨⟨q + 1, by omega, by go_num, HB3, HO2⟩, rfl⟩)
        case measure => simp [intOf]; omega
      · have HE : Hid (Hr.errL cs = 6) := hide (Hr.err_twice HPB.out (by
         rw [<- HLL.out]; cases hb : Hr.oneB l with
         | false => rfl
         | true =>
           have h1 := (Hr.oneB_iff l).1 hb k x HXk.out; rw [HQ.out] at h1; cases h1
           exact absurd rfl hqk))
        have hqk' : ((q : Int) != (k : Int)) = true := by simp; omega
        have hqk2 : (q : Int) ≠ (k : Int) := by omega
        go_wp2_with fail; refine HAt.out.mono ?_; rintro e w3 ⟨rfl, hb3⟩; have HB3 := hide (HW.out.trans ((HB2.out.trans (hb3.mono HB2.out.size)).mono HW.out.size)); clear hb3 r0 HAt HB2; go_wp2_with fail; go_ret; rw [HE.out]; exact ⟨rfl, HB3.out⟩
    · have HON : Hid (Hr.oneB l = true) := hide ((Hr.oneB_iff l).2 fun j d hd => HOn.out j d (by have := (List.getElem?_eq_some_iff.1 hd).1; have := HM.out; omega) hd)
      have hnl : ¬ ((k : Int) < (m : Int)) := by omega
      have HNone : Hid (∀ x, ∀ {k}, l[k]? = some x -> Hr.upsL l x = none -> Hr.errL cs = 5) := hide (by
       intro x k hx hu; have h1 := Hr.growL_step (l := l) hx; rw [hu] at h1; have h2 : Hr.growL l (l.take (k + 1)) = none := by rw [h1]; cases Hr.growL l (l.take k) <;> rfl
       have h3 := Hr.growL_take h2; have h4 := HON.out; rw [HLL.out] at h3 h4
       exact Hr.err_none HPB.out h4 h3)
      clear HOn; go_wp2_with fail
      go_loopw [5] (fun i wr => ∃ k : Nat, k <= m /\ i = .int .i64 k /\ Hid (Below w1.heap.size w1 wr) /\ Hid (∃ r, Hr.growL l (l.take k) = some r)) (fun i _ => m - (intOf i).toNat)
      case atStart => exact ⟨0, Nat.zero_le _, rfl, HB2, hide ⟨[], rfl⟩⟩
      case round =>
       obtain ⟨k, hk, rfl, HBr, HG⟩ := hrel; clear HB2; by_cases hlt : k < m
       · obtain ⟨x, hx⟩ : ∃ x, l[k]? = some x := ⟨l[k]'(by rw [<- HM.out]; exact hlt), List.getElem?_eq_getElem _⟩
         obtain ⟨g1, o1, eg1, ys1, w1', hc1⟩ := Hr.row_at (HRow.out w1 (Below.refl _ _)) hx; cases eg1; have HXk := hide hx; have HSu := hide (RSuper_any x ys1 wr (w1'.on HBr.out)); have HC := hide hc1; have hr := hc1 wr HBr.out
         obtain ⟨va1, vd1, va2, vd2, va3, vd3, HI1, rfl⟩ : ∃ va1 vd1 va2 vd2 va3 vd3, Hid (RowX w1 1 StrX (.slice va1 x.ifaces.length vd1) x.ifaces) /\ ys1 = [.string ⟨x.name.toArray⟩, .bool x.iface, .string ⟨x.super.toArray⟩, .slice va1 x.ifaces.length vd1, .slice va2 x.fields.length vd2, .slice va3 x.methods.length vd3] := by
          obtain ⟨vp, vc, vk, rfl, x1, x2, x3, _⟩ := w1'; obtain ⟨va1, vd1, rfl, _⟩ := x1.len; obtain ⟨va2, vd2, rfl, _⟩ := x2.len; obtain ⟨va3, vd3, rfl, _⟩ := x3.len; exact ⟨_, _, _, _, _, _, hide x1, rfl⟩
         have HF := hide (fun wy (hb : Below w1.heap.size w1 wy) => HC.out wy hb 3 _ rfl); have r0 := hr 0 _ rfl; have r1 := hr 1 _ rfl; have r2 := hr 2 _ rfl; have r3 := hr 3 _ rfl; have r4 := hr 4 _ rfl; have r5 := hr 5 _ rfl; rw [Nat.add_zero] at r0; have hlt' : (k : Int) < (m : Int) := by omega
         have hmi : (m : Int) <= 100 := by omega
         clear hc1 hr hx w1' HC; go_wp2_with fail; refine HSu.out.mono ?_; rintro e w2 ⟨rfl, hb2⟩; have HB3 := hide (HBr.out.trans (hb2.mono HBr.out.size)); clear hb2 r0 r1 r2 r3 r4 r5 HSu HBr; by_cases hs : Hr.superS x = []
         · have HSup : Hid (Hr.supL l x = some []) := hide (by unfold Hr.supL; rw [Hr.superS_nil hs])
           have HSa : Hid (∃ a, Hr.supL l x = some a) := hide ⟨_, HSup.out⟩; rw [hs]; clear hs; have HFc := hide (HIf.out x (List.mem_of_getElem? HXk.out)); obtain ⟨fl, hfl⟩ : ∃ q, q = x.ifaces.length := ⟨_, rfl⟩; have HFL := hide hfl; rw [<- hfl] at HI1 HF HFc; clear hfl; have hfc : fl <= 1000 := HFc.out; go_wp2_with fail
           go_loopw [7] (fun i wr => ∃ j : Nat, j <= fl /\ i = .int .i64 j /\ Hid (Below w1.heap.size w1 wr) /\ Hid (∃ r, Hr.ifsL l (x.ifaces.take j) = some r)) (fun i _ => fl - (intOf i).toNat)
           case atStart => exact ⟨0, Nat.zero_le _, rfl, HB3, hide ⟨[], rfl⟩⟩
           case round =>
            obtain ⟨j, hj, rfl, HB4, HI4⟩ := hrel; clear HB3; have c3 := HF.out wr HB4.out; by_cases hlj : j < fl
            · obtain ⟨y, hy⟩ : ∃ y, x.ifaces[j]? = some y := ⟨x.ifaces[j]'(by rw [<- HFL.out]; exact hlj), List.getElem?_eq_getElem _⟩
              obtain ⟨g5, o5, eg5, ys5, hys5, hc5⟩ := Hr.row_at HI1.out hy; subst eg5; obtain rfl : ys5 = _ := hys5.1; have r5 := hc5 wr HB4.out 0 _ rfl; simp only [Nat.mul_one, Nat.add_zero] at r5; have HY := hide hy; have HAt := hide (HA.out wr HB4.out y); have hlj' : (j : Int) < (fl : Int) := by omega
              have hfi : (fl : Int) <= 1000 := by omega
              clear hc5 hy hys5; cases hpl : Hr.placeL l y with
              | none =>
                have HE : Hid (Hr.errL cs = 5) := hide (HNone.out x HXk.out (by
                 have h1 := Hr.ifsL_step (l := l) HY.out; obtain ⟨r, hr⟩ := HI4.out; rw [hr, show Hr.upL l true y = none from by unfold Hr.upL; rw [hpl]] at h1
                 have h2 := Hr.ifsL_take h1; unfold Hr.upsL
                 rw [HSup.out, h2]; rfl))
                rw [hpl] at HAt; simp only [Hr.placeI] at HAt; clear hpl; generalize (⟨y.toArray⟩ : ByteArray) = yb at *
                go_wp2_with fail; refine HAt.out.mono ?_; rintro e w6 ⟨rfl, hb6⟩; have HB6 := hide (HW.out.trans ((HB4.out.trans (hb6.mono HB4.out.size)).mono HW.out.size)); clear hb6 c3 r5; go_wp2_with fail; go_ret; rw [HE.out]; exact ⟨rfl, HB6.out⟩
              | some q =>
                obtain ⟨d, hdq, -, -⟩ := Hr.placeL_lt hpl; have HPQ := hide hpl; have HDQ := hide hdq; have hqm : q < m := by rw [HM.out]; exact (List.getElem?_eq_some_iff.1 hdq).1
                have HCq := hide (fun wy (hb : Below w1.heap.size w1 wy) => (HCl.out wy hb q d hdq).2); have hqm' : (q : Int) < (m : Int) := by omega
                have hmi : (m : Int) <= 100 := by omega
                rw [hpl] at HAt; simp only [Hr.placeI] at HAt; clear hpl hdq; generalize (⟨y.toArray⟩ : ByteArray) = yb at *
                go_wp2_with fail; refine HAt.out.mono ?_; rintro e w6 ⟨rfl, hb6⟩; have HB6 := hide (HB4.out.trans (hb6.mono HB4.out.size)); have r7 := HCq.out w6 HB6.out; clear hb6 c3 r5; cases hif : d.iface with
                | false =>
                  have HE : Hid (Hr.errL cs = 5) := hide (HNone.out x HXk.out (by
                   have h1 := Hr.ifsL_step (l := l) HY.out; obtain ⟨r, hr⟩ := HI4.out; rw [hr, show Hr.upL l true y = none from by unfold Hr.upL; rw [HPQ.out]; simp only [HDQ.out, hif]; rfl] at h1
                   have h2 := Hr.ifsL_take h1; unfold Hr.upsL
                   rw [HSup.out, h2]; rfl))
                  rw [hif] at r7; have HB7 := hide (HW.out.trans (HB6.out.mono HW.out.size)); clear hif; go_wp2_with fail; go_ret; rw [HE.out]; exact ⟨rfl, HB7.out⟩
                | true =>
                  have HI5 : Hid (∃ r, Hr.ifsL l (x.ifaces.take (j + 1)) = some r) := hide (by
                   have h1 := Hr.ifsL_step (l := l) HY.out; obtain ⟨r, hr⟩ := HI4.out; rw [hr, show Hr.upL l true y = some q from by unfold Hr.upL; rw [HPQ.out]; simp only [HDQ.out, hif]; rfl] at h1
                   exact ⟨_, h1⟩)
                  rw [hif] at r7; clear hif; go_wp2_with fail
                  go_roundw
                  case rel => first | exact ⟨j + 1, by omega, by go_num, HB6, HI5⟩ | ((repeat apply Exists.intro); exact ⟨⟨j + 1, by omega, by go_num, HB6, HI5⟩, rfl⟩)
                  case measure => simp [intOf]; omega
            · have HG' : Hid (∃ r, Hr.growL l (l.take (k + 1)) = some r) := hide (by
               obtain ⟨r, hr⟩ := HG.out; obtain ⟨r2, hr2⟩ := HI4.out; rw [List.take_of_length_le (by rw [<- HFL.out]; omega)] at hr2
               obtain ⟨a, ha⟩ := HSa.out; rw [Hr.growL_step HXk.out, hr, show Hr.upsL l x = some (a ++ r2) from by unfold Hr.upsL; rw [ha, hr2]; rfl]
               exact ⟨_, rfl⟩)
              have hnl : ¬ ((j : Int) < (fl : Int)) := by omega
              clear HI4; go_wp2_with fail
              go_roundw
              case rel => first | exact ⟨k + 1, by omega, by go_num, HB4, HG'⟩ | ((repeat apply Exists.intro); exact ⟨⟨k + 1, by omega, by go_num, HB4, HG'⟩, rfl⟩)
              case measure => simp [intOf]; omega
         · have hse : (Hr.superS x == []) = false := by simp [hs]
           have HSu := hide (Hr.superS_ne hs); clear hs; generalize Hr.superS x = s at *
           have HAs := hide (fun wy (hb : Below w1.heap.size w1 wy) => HA.out wy hb s); cases hpl : Hr.placeL l s with
           | none =>
             have HE : Hid (Hr.errL cs = 5) := hide (HNone.out x HXk.out (by
              unfold Hr.upsL Hr.supL; rw [HSu.out]; simp only
              rw [show Hr.upL l false s = none from by unfold Hr.upL; rw [hpl]]; rfl))
             rw [hpl] at HAs; simp only [Hr.placeI] at HAs; clear hpl; go_wp2_with fail; refine (HAs.out w2 HB3.out).mono ?_; rintro e w6 ⟨rfl, hb6⟩; have HB6 := hide (HW.out.trans ((HB3.out.trans (hb6.mono HB3.out.size)).mono HW.out.size)); clear hb6; go_wp2_with fail; go_ret; rw [HE.out]; exact ⟨rfl, HB6.out⟩
           | some q =>
             obtain ⟨d, hdq, -, -⟩ := Hr.placeL_lt hpl; have HPQ := hide hpl; have HDQ := hide hdq; have hqm : q < m := by rw [HM.out]; exact (List.getElem?_eq_some_iff.1 hdq).1
             have HCq := hide (fun wy (hb : Below w1.heap.size w1 wy) => (HCl.out wy hb q d hdq).2); have hqm' : (q : Int) < (m : Int) := by omega
             rw [hpl] at HAs; simp only [Hr.placeI] at HAs; clear hpl hdq; go_wp2_with fail; refine (HAs.out w2 HB3.out).mono ?_; rintro e w6 ⟨rfl, hb6⟩; have HB6 := hide (HB3.out.trans (hb6.mono HB3.out.size)); clear hb6 HB3; go_wp2_with fail; refine (HAs.out w6 HB6.out).mono ?_; rintro e w7 ⟨rfl, hb7⟩; have HB3 := hide (HB6.out.trans (hb7.mono HB6.out.size)); have r7 := HCq.out w7 HB3.out; clear hb7 HB6; cases hif : d.iface with
             | true =>
               have HE : Hid (Hr.errL cs = 5) := hide (HNone.out x HXk.out (by
                unfold Hr.upsL Hr.supL; rw [HSu.out]; simp only
                rw [show Hr.upL l false s = none from by unfold Hr.upL; rw [HPQ.out]; simp only [HDQ.out, hif]; rfl]; rfl))
               have HB6 := hide (HW.out.trans (HB3.out.mono HW.out.size)); rw [hif] at r7; clear hif; go_wp2_with fail; go_ret; rw [HE.out]; exact ⟨rfl, HB6.out⟩
             | false =>
               have HSup : Hid (Hr.supL l x = some [q]) := hide (by
                unfold Hr.supL; rw [HSu.out]; simp only
                rw [show Hr.upL l false s = some q from by unfold Hr.upL; rw [HPQ.out]; simp only [HDQ.out, hif]; rfl]; rfl)
               have HSa : Hid (∃ a, Hr.supL l x = some a) := hide ⟨_, HSup.out⟩; rw [hif] at r7; clear hif; go_wp2_with fail; clear r7; have HFc := hide (HIf.out x (List.mem_of_getElem? HXk.out)); obtain ⟨fl, hfl⟩ : ∃ q, q = x.ifaces.length := ⟨_, rfl⟩; have HFL := hide hfl; rw [<- hfl] at HI1 HF HFc; clear hfl; have hfc : fl <= 1000 := HFc.out; go_wp2_with fail
               go_loopw [7] (fun i wr => ∃ j : Nat, j <= fl /\ i = .int .i64 j /\ Hid (Below w1.heap.size w1 wr) /\ Hid (∃ r, Hr.ifsL l (x.ifaces.take j) = some r)) (fun i _ => fl - (intOf i).toNat)
               case atStart => exact ⟨0, Nat.zero_le _, rfl, HB3, hide ⟨[], rfl⟩⟩
               case round =>
                obtain ⟨j, hj, rfl, HB4, HI4⟩ := hrel; clear HB3; have c3 := HF.out wr HB4.out; by_cases hlj : j < fl
                · obtain ⟨y, hy⟩ : ∃ y, x.ifaces[j]? = some y := ⟨x.ifaces[j]'(by rw [<- HFL.out]; exact hlj), List.getElem?_eq_getElem _⟩
                  obtain ⟨g5, o5, eg5, ys5, hys5, hc5⟩ := Hr.row_at HI1.out hy; subst eg5; obtain rfl : ys5 = _ := hys5.1; have r5 := hc5 wr HB4.out 0 _ rfl; simp only [Nat.mul_one, Nat.add_zero] at r5; have HY := hide hy; have HAt := hide (HA.out wr HB4.out y); have hlj' : (j : Int) < (fl : Int) := by omega
                  have hfi : (fl : Int) <= 1000 := by omega
                  clear hc5 hy hys5; cases hpl : Hr.placeL l y with
                  | none =>
                    have HE : Hid (Hr.errL cs = 5) := hide (HNone.out x HXk.out (by
                     have h1 := Hr.ifsL_step (l := l) HY.out; obtain ⟨r, hr⟩ := HI4.out; rw [hr, show Hr.upL l true y = none from by unfold Hr.upL; rw [hpl]] at h1
                     have h2 := Hr.ifsL_take h1; unfold Hr.upsL
                     rw [HSup.out, h2]; rfl))
                    rw [hpl] at HAt; simp only [Hr.placeI] at HAt; clear hpl; generalize (⟨y.toArray⟩ : ByteArray) = yb at *
                    go_wp2_with fail; refine HAt.out.mono ?_; rintro e w6 ⟨rfl, hb6⟩; have HB6 := hide (HW.out.trans ((HB4.out.trans (hb6.mono HB4.out.size)).mono HW.out.size)); clear hb6 c3 r5; go_wp2_with fail; go_ret; rw [HE.out]; exact ⟨rfl, HB6.out⟩
                  | some q =>
                    obtain ⟨d, hdq, -, -⟩ := Hr.placeL_lt hpl; have HPQ := hide hpl; have HDQ := hide hdq; have hqm : q < m := by rw [HM.out]; exact (List.getElem?_eq_some_iff.1 hdq).1
                    have HCq := hide (fun wy (hb : Below w1.heap.size w1 wy) => (HCl.out wy hb q d hdq).2); have hqm' : (q : Int) < (m : Int) := by omega
                    have hmi : (m : Int) <= 100 := by omega
                    rw [hpl] at HAt; simp only [Hr.placeI] at HAt; clear hpl hdq; generalize (⟨y.toArray⟩ : ByteArray) = yb at *
                    go_wp2_with fail; refine HAt.out.mono ?_; rintro e w6 ⟨rfl, hb6⟩; have HB6 := hide (HB4.out.trans (hb6.mono HB4.out.size)); have r7 := HCq.out w6 HB6.out; clear hb6 c3 r5; cases hif : d.iface with
                    | false =>
                      have HE : Hid (Hr.errL cs = 5) := hide (HNone.out x HXk.out (by
                       have h1 := Hr.ifsL_step (l := l) HY.out; obtain ⟨r, hr⟩ := HI4.out; rw [hr, show Hr.upL l true y = none from by unfold Hr.upL; rw [HPQ.out]; simp only [HDQ.out, hif]; rfl] at h1
                       have h2 := Hr.ifsL_take h1; unfold Hr.upsL
                       rw [HSup.out, h2]; rfl))
                      rw [hif] at r7; have HB7 := hide (HW.out.trans (HB6.out.mono HW.out.size)); clear hif; go_wp2_with fail; go_ret; rw [HE.out]; exact ⟨rfl, HB7.out⟩
                    | true =>
                      have HI5 : Hid (∃ r, Hr.ifsL l (x.ifaces.take (j + 1)) = some r) := hide (by
                       have h1 := Hr.ifsL_step (l := l) HY.out; obtain ⟨r, hr⟩ := HI4.out; rw [hr, show Hr.upL l true y = some q from by unfold Hr.upL; rw [HPQ.out]; simp only [HDQ.out, hif]; rfl] at h1
                       exact ⟨_, h1⟩)
                      rw [hif] at r7; clear hif; go_wp2_with fail
                      go_roundw
                      case rel => first | exact ⟨j + 1, by omega, by go_num, HB6, HI5⟩ | ((repeat apply Exists.intro); exact ⟨⟨j + 1, by omega, by go_num, HB6, HI5⟩, rfl⟩)
                      case measure => simp [intOf]; omega
                · have HG' : Hid (∃ r, Hr.growL l (l.take (k + 1)) = some r) := hide (by
                   obtain ⟨r, hr⟩ := HG.out; obtain ⟨r2, hr2⟩ := HI4.out; rw [List.take_of_length_le (by rw [<- HFL.out]; omega)] at hr2
                   obtain ⟨a, ha⟩ := HSa.out; rw [Hr.growL_step HXk.out, hr, show Hr.upsL l x = some (a ++ r2) from by unfold Hr.upsL; rw [ha, hr2]; rfl]
                   exact ⟨_, rfl⟩)
                  have hnl : ¬ ((j : Int) < (fl : Int)) := by omega
                  clear HI4; go_wp2_with fail
                  go_roundw
                  case rel => first | exact ⟨k + 1, by omega, by go_num, HB4, HG'⟩ | ((repeat apply Exists.intro); exact ⟨⟨k + 1, by omega, by go_num, HB4, HG'⟩, rfl⟩)
                  case measure => simp [intOf]; omega
       · have HG0 : Hid (∃ up, Hr.growL l l = some up) := hide (by
          have := HG.out
          rwa [List.take_of_length_le (by rw [<- HM.out]; omega)] at this)
         have hnl : ¬ ((k : Int) < (m : Int)) := by omega
         clear HG HNone; go_wp2_with fail
         go_loopw [9] (fun i wr => ∃ k : Nat, k <= m /\ i = .int .i64 k /\ Hid (Below w1.heap.size w1 wr) /\ Hid (∀ c ∈ l.take k, ∀ y ∈ Hr.aboveL c, ¬ Hr.NFar l y c.name)) (fun i _ => m - (intOf i).toNat)
         case atStart => exact ⟨0, Nat.zero_le _, rfl, HBr, hide (by simp)⟩
         case round =>
          obtain ⟨k, hk, rfl, HB2, HNF⟩ := hrel; clear HBr; by_cases hlt : k < m
          · obtain ⟨x, hx⟩ : ∃ x, l[k]? = some x := ⟨l[k]'(by rw [<- HM.out]; exact hlt), List.getElem?_eq_getElem _⟩
            obtain ⟨g1, o1, eg1, ys1, w1', hc1⟩ := Hr.row_at (HRow.out w1 (Below.refl _ _)) hx; cases eg1; have HXk := hide hx; have HAb := hide (above_any x ys1 wr (w1'.on HB2.out) (HIf.out x (List.mem_of_getElem? hx))); have HAL : Hid ((Hr.aboveL x).length <= 1001) := hide (Hr.above_len HIf.out (List.mem_of_getElem? hx)); have HN0 := hide (fun wy (hb : Below w1.heap.size w1 wy) => (HCl.out wy hb k x hx).1); have hr := hc1 wr HB2.out; obtain ⟨va1, vd1, va2, vd2, va3, vd3, rfl⟩ := Hr.at_c w1'; have r0 := hr 0 _ rfl; have r1 := hr 1 _ rfl; have r2 := hr 2 _ rfl; have r3 := hr 3 _ rfl; have r4 := hr 4 _ rfl; have r5 := hr 5 _ rfl; rw [Nat.add_zero] at r0; have hlt' : (k : Int) < (m : Int) := by omega
            have hmi : (m : Int) <= 100 := by omega
            clear hc1 hr hx w1'; go_wp2_with fail; refine HAb.out.mono ?_; rintro e w3 ⟨vn, rfl, hon, hb3⟩; have HB3 := hide (HB2.out.trans (hb3.mono HB2.out.size)); have HNr := hide (hon.row Ow.shp_str fun _ _ h => h); obtain ⟨na, nc, rfl⟩ := hon.shape; obtain ⟨p, hp⟩ : ∃ q, q = (Hr.aboveL x).length := ⟨_, rfl⟩; have HP := hide hp; rw [<- hp] at HNr HAL ⊢; have hp1 : p <= 1001 := HAL.out; have HNx := hide (fun c (hc : c ∈ l.take k) => HNF.out c hc); clear hb3 hon hp r0 r1 r2 r3 r4 r5 HAb; go_wp2_with fail
            go_loopw [11] (fun i wr => ∃ j : Nat, j <= p /\ i = .int .i64 j /\ Hid (Below w3.heap.size w3 wr) /\ Hid (∀ y ∈ (Hr.aboveL x).take j, ¬ Hr.NFar l y x.name)) (fun i _ => p - (intOf i).toNat)
            case atStart => exact ⟨0, Nat.zero_le _, rfl, hide (Below.refl _ _), hide (by simp)⟩
            case round =>
             obtain ⟨j, hj, rfl, HB4, HJ⟩ := hrel; have HBw := hide (HB3.out.trans (HB4.out.mono HB3.out.size)); by_cases hlj : j < p
             · obtain ⟨y, hy⟩ : ∃ y, (Hr.aboveL x)[j]? = some y := ⟨(Hr.aboveL x)[j]'(by rw [<- HP.out]; exact hlj), List.getElem?_eq_getElem _⟩
               obtain ⟨g5, o5, eg5, ys5, hys5, hc5⟩ := Hr.row_at HNr.out hy; subst eg5; obtain rfl : ys5 = _ := hys5.1; have HYl := hide hys5.2; have HY := hide hy; have HD : Hid (Below wr.heap.size wr wr.drew) := hide (Below.drew (Below.refl _ _)); have r5 := hc5 wr HB4.out 0 _ rfl; have r6 := hc5 wr.drew (HB4.out.trans (HD.out.mono HB4.out.size)) 0 _ rfl; simp only [Nat.mul_one, Nat.add_zero] at r5 r6; have n5 := HN0.out wr HBw.out; have n6 := HN0.out wr.drew (HBw.out.trans (HD.out.mono HBw.out.size)); have HRc := hide (reach_any l (.slice (some ⟨g, o, none⟩) m lc) y wr.drew (HRow.out _ (HBw.out.trans (HD.out.mono HBw.out.size))) (by rw [<- HM.out]; omega) HIf.out HYl.out)
               have hlj' : (j : Int) < (p : Int) := by omega
               have hpi : (p : Int) <= 1001 := by omega
               have HST : Hid (¬ Hr.NFar l y x.name -> ∀ z ∈ (Hr.aboveL x).take (j + 1), ¬ Hr.NFar l z x.name) := hide (by
                intro hn z hz; rw [List.take_add_one, HY.out, List.mem_append] at hz
                rcases hz with hz | hz
                · exact HJ.out z hz
                · simp at hz; subst hz; exact hn)
               have HE7 : Hid (Hr.NFar l y x.name -> Hr.errL cs = 7) := hide (by
                intro hn; obtain ⟨up, hg⟩ := HG0.out; have h1 := (Hr.ring_names ((Hr.oneB_iff l).1 HON.out) hg).1 ⟨x, List.mem_of_getElem? HXk.out, y, List.mem_of_getElem? HY.out, hn⟩; have h2 := HON.out; rw [HLL.out] at hg h2
                exact Hr.err_ring HPB.out h2 hg h1)
               clear hc5 hy hys5 HJ; generalize (⟨y.toArray⟩ : ByteArray) = yb at *
               go_wp2_with fail
               go_region_law (first
                | (go_simp
                   refine (HRc.out).mono ?_; rintro e w6 ⟨v6, out, rfl, ho6, hri, hb6⟩; have HB6 := hide (HBw.out.trans ((HD.out.trans (hb6.mono HD.out.size)).mono HBw.out.size)); have HB36 := hide (HB4.out.trans ((HD.out.trans (hb6.mono HD.out.size)).mono HB4.out.size)); have n7 := HN0.out w6 HB6.out; obtain ⟨a6, c6, rfl⟩ := ho6.shape
                   have HHas := hide (has_any out (.slice a6 out.length c6) x.name w6 (ho6.row Ow.shp_str fun _ _ h => h) (by
                    have h1 := hri.few; have h2 := Hr.most_le HIf.out; have h3 := HM.out; unfold Hr.mostL at h1; unfold maxLen
                    omega))
                   obtain ⟨bb, hbb⟩ : ∃ q, q = decide (x.name ∈ out) := ⟨_, rfl⟩; have HBB : Hid (bb = true ↔ Hr.NFar l y x.name) := hide (by rw [hbb, decide_eq_true_eq]; exact hri.stop x.name)
                   rw [<- hbb] at HHas
                   clear hb6 ho6 hri hbb)
                | (go_simp
                   refine (HHas.out).mono ?_; rintro e w7 ⟨rfl, hb7⟩; have HB7 := hide (HB6.out.trans (hb7.mono HB6.out.size)); have HB37 := hide (HB36.out.trans (hb7.mono HB36.out.size))
                   clear hb7))
               all_goals
                cases bb with
                | true =>
                  have HE := hide (HE7.out (HBB.out.1 rfl)); have HB8 := hide (HW.out.trans (HB7.out.mono HW.out.size)); clear HHas HRc n5 n6 n7 r5 r6; go_wp2_with fail; go_ret; rw [HE.out]; exact ⟨rfl, HB8.out⟩
                | false =>
                  have HJ2 := hide (HST.out fun h => Bool.noConfusion (HBB.out.2 h)); clear HHas HRc n5 n6 n7 r5 r6; go_wp2_with fail
                  go_roundw
                  case rel => first | exact ⟨j + 1, by omega, by go_num, HB37, HJ2⟩ | ((repeat apply Exists.intro); exact ⟨⟨j + 1, by omega, by go_num, HB37, HJ2⟩, rfl⟩)
                  case measure => simp [intOf]; omega
             · have HNF2 : Hid (∀ c ∈ l.take (k + 1), ∀ y ∈ Hr.aboveL c, ¬ Hr.NFar l y c.name) := hide (by
                intro c hc; rw [List.take_add_one, HXk.out, List.mem_append] at hc
                rcases hc with hc | hc
                · exact HNF.out c hc
                · simp at hc; subst hc
                  have := HJ.out; rw [List.take_of_length_le (by rw [<- HP.out]; omega)] at this
                  exact this)
               have hnl : ¬ ((j : Int) < (p : Int)) := by omega
               clear HJ; go_wp2_with fail
               go_roundw
               case rel => first | exact ⟨k + 1, by omega, by go_num, HBw, HNF2⟩ | ((repeat apply Exists.intro); exact ⟨⟨k + 1, by omega, by go_num, HBw, HNF2⟩, rfl⟩)
               case measure => simp [intOf]; omega
          · have HE : Hid (Hr.errL cs = 0) := hide (by
             obtain ⟨up, hg⟩ := HG0.out; have h2 := HON.out
             have h3 : ¬ Hr.Ring up := fun hr => by
              obtain ⟨c, hc, y, hy, hn⟩ := (Hr.ring_names ((Hr.oneB_iff l).1 HON.out) hg).2 hr; have := HNF.out; rw [List.take_of_length_le (by rw [<- HM.out]; omega)] at this
              exact this c hc y hy hn
             rw [HLL.out] at hg h2
             exact Hr.err_ok HPB.out h2 hg h3)
            have hnl : ¬ ((k : Int) < (m : Int)) := by omega
            have HB5 := hide (HW.out.trans (HB2.out.mono HW.out.size)); go_wp2_with fail; go_ret; rw [HE.out]; exact ⟨rfl, HB5.out⟩
namespace Ly
def ownP (ms : List Pp.XMth) (nm : Pp.Bs) : Option Nat := ms.findIdx? fun m => m.name == nm
def ownI : Option Nat -> Int
 | none => -1
 | some k => k
theorem own_take {ms : List Pp.XMth} {nm : Pp.Bs} {k : Nat} {m : Pp.XMth} (h : (ms.take k).any (fun m => m.name == nm) = false) (hx : ms[k]? = some m) (hp : m.name = nm) : ownP ms nm = some k := by
 unfold ownP; have hlt := (List.getElem?_eq_some_iff.1 hx).1; have hm : ms[k] = m := by simpa [List.getElem?_eq_getElem hlt] using hx
 rw [List.findIdx?_eq_some_iff_getElem]; refine ⟨hlt, by rw [hm, hp]; simp, fun j hj => ?_⟩
 have h1 := List.any_eq_false.1 h (ms[j]) (List.mem_iff_getElem.2 ⟨j, by rw [List.length_take]; omega, by rw [List.getElem_take]⟩)
 simpa using h1
theorem own_end {ms : List Pp.XMth} {nm : Pp.Bs} (h : ms.any (fun m => m.name == nm) = false) : ownP ms nm = none := by
 unfold ownP; rw [List.findIdx?_eq_none_iff]; intro m hm; have := List.any_eq_false.1 h m hm
 simpa using this
end Ly
theorem own_any (c : Pp.XCls) (cs : List Value) (n : Pp.Bs) (w : World) (h : ClsX w c cs) (hm : c.methods.length <= 100) :
 Calls Tryz.prog 63 #[.agg cs.toArray, .string ⟨n.toArray⟩] w fun e w' => e = .returned (.int .i64 (Ly.ownI (Ly.ownP c.methods n))) /\ Below w.heap.size w w' := by
 obtain ⟨ia, ic, fa, fc, ma, mc, rfl, _, _, x3⟩ := cls_open h; have HRm := hide x3; clear x3 h; obtain ⟨nm, hnm⟩ : ∃ q, q = c.methods.length := ⟨_, rfl⟩; have HNm := hide hnm; rw [<- hnm] at HRm hm ⊢; clear hnm; have hm1 : (nm : Int) <= 100 := by omega
 obtain ⟨r, hr⟩ : ∃ r, r = Ly.ownI (Ly.ownP c.methods n) := ⟨_, rfl⟩; have HR := hide hr; rw [<- hr]; clear hr; generalize (⟨c.name.toArray⟩ : ByteArray) = NB; generalize (⟨c.super.toArray⟩ : ByteArray) = SB; generalize c.iface = fi; generalize c.ifaces.length = ni; generalize c.fields.length = nf; have HB0 := hide ((Below.refl w.heap.size w).alloc (Nat.le_refl _) (.cells #[.string NB, .bool fi, .string SB, .slice ia ni ic, .slice fa nf fc, .slice ma nm mc] 59)); have HX0 := hide (heap_alloc_new w (.cells #[.string NB, .bool fi, .string SB, .slice ia ni ic, .slice fa nf fc, .slice ma nm mc] 59)); go_enter Tryz.func63, Tryz.ntmps63; go_wp2_with fail; have c5 := cell_box HX0.out 5; generalize w.alloc (.cells #[.string NB, .bool fi, .string SB, .slice ia ni ic, .slice fa nf fc, .slice ma nm mc] 59) = wa at *
 go_loop [5] (fun i => ∃ k : Nat, k <= nm /\ i = .int .i64 k /\ Hid ((c.methods.take k).any (fun m => m.name == n) = false)) (fun i => nm - (intOf i).toNat)
 case atStart => exact ⟨0, Nat.zero_le _, rfl, hide (by simp)⟩
 case round =>
  obtain ⟨k, hk, rfl, HNo⟩ := hrel; by_cases hlt : k < nm
  · obtain ⟨x, hx⟩ : ∃ x, c.methods[k]? = some x := ⟨c.methods[k]'(by rw [<- HNm.out]; exact hlt), List.getElem?_eq_getElem _⟩
    obtain ⟨g, o, rfl, ys, wf, hc⟩ := Ow.row_at' HRm.out hx; obtain ⟨vp, vc, vk, rfl, _⟩ := wf; have r0 := hc wa HB0.out 0 _ rfl; rw [Nat.add_zero] at r0; have hlt' : (k : Int) < (nm : Int) := by omega
    by_cases hn : x.name = n
    · have HF : Hid (r = (k : Int)) := hide (by rw [HR.out, Ly.own_take HNo.out hx hn]; rfl)
      rw [hn] at r0; clear hx hn hc HNo; go_wp2_with fail; go_ret; exact ⟨by rw [HF.out]; rfl, HB0.out⟩
    · have hne : (x.name == n) = false := by simp [hn]
      have HNo2 := hide (Ly.any_take (p := fun m : Pp.XMth => m.name == n) HNo.out hx hne); clear hx hn hc HNo; generalize x.name = y0 at *
      go_wp2_with fail
      go_round
      case rel => exact ⟨k + 1, by omega, by go_num, HNo2⟩
      case measure => simp [intOf]; omega
  · have HF : Hid (r = -1) := hide (by rw [HR.out, Ly.own_end (Ly.any_end HNo.out (by rw [<- HNm.out]; omega))]; rfl)
    have hnl : ¬ ((k : Int) < (nm : Int)) := by omega
    clear HNo; go_wp2_with fail; go_ret; exact ⟨by rw [HF.out]; rfl, HB0.out⟩
theorem named_any (l : List Pp.XCls) (v : Value) (t : Pp.Ty) (ts : List Value) (w : World) (h : RowX w 6 (ClsX w) v l) (hl : l.length <= 1000) (ht : TyX t ts) :
 Calls Tryz.prog 64 #[v, .agg ts.toArray] w fun e w' => e = .returned (.bool (Ly.namedG l t)) /\ Below w.heap.size w w' := by
 have HAt := hide (fun wx (hb : Below w.heap.size w wx) => RAt_any l v t.name wx (h.on hb fun _ _ h => h.on hb) (by unfold maxLen; omega))
 obtain ⟨va, vc, rfl, _⟩ := h.len; obtain ⟨rfl, _⟩ := ht; simp only [tyL]; obtain ⟨r, hr⟩ : ∃ r, r = Ly.namedG l t := ⟨_, rfl⟩; have HR := hide hr; rw [<- hr]; unfold Ly.namedG at HR; clear hr h hl; obtain ⟨tk, tn⟩ := t; dsimp only at HAt HR ⊢; generalize Hr.placeL l tn = res at *
 generalize (⟨tn.toArray⟩ : ByteArray) = TN at *
 generalize l.length = n at *
 have HB0 := hide ((Below.refl w.heap.size w).alloc (Nat.le_refl _) (.cells #[.int .i64 tk, .string TN] 35)); by_cases h3 : tk = 3
 · subst h3
   have HR2 : Hid (r = res.isSome) := hide HR.out; clear HR; go_enter Tryz.func64, Tryz.ntmps64; go_wp2_with fail; refine (HAt.out _ HB0.out).mono ?_; rintro e w1 ⟨rfl, hb1⟩; have HB1 := hide (HB0.out.trans (hb1.mono HB0.out.size)); clear HAt hb1; cases res with
   | none =>
     have HF : Hid (r = false) := hide HR2.out; clear HR2; simp only [Hr.placeI]; go_wp2_with fail; go_ret; exact ⟨by rw [HF.out]; rfl, HB1.out⟩
   | some k =>
     have HF : Hid (r = true) := hide HR2.out; have hk0 : (0 : Int) <= (k : Int) := by omega
     clear HR2; simp only [Hr.placeI]; go_wp2_with fail; go_ret; exact ⟨by rw [HF.out]; rfl, HB1.out⟩
 · by_cases h5 : tk = 5
   · subst h5
     have HR2 : Hid (r = res.isSome) := hide HR.out; clear HR h3; go_enter Tryz.func64, Tryz.ntmps64; go_wp2_with fail; refine (HAt.out _ HB0.out).mono ?_; rintro e w1 ⟨rfl, hb1⟩; have HB1 := hide (HB0.out.trans (hb1.mono HB0.out.size)); clear HAt hb1; cases res with
     | none =>
       have HF : Hid (r = false) := hide HR2.out; clear HR2; simp only [Hr.placeI]; go_wp2_with fail; go_ret; exact ⟨by rw [HF.out]; rfl, HB1.out⟩
     | some k =>
       have HF : Hid (r = true) := hide HR2.out; have hk0 : (0 : Int) <= (k : Int) := by omega
       clear HR2; simp only [Hr.placeI]; go_wp2_with fail; go_ret; exact ⟨by rw [HF.out]; rfl, HB1.out⟩
   · have e3 : (tk != 3) = true := by simpa using h3
     have e5 : (tk != 5) = true := by simpa using h5
     have HF : Hid (r = true) := hide (by rw [HR.out, e3, e5]; rfl)
     clear HR HAt; go_enter Tryz.func64, Tryz.ntmps64; go_wp2_with fail; go_ret; exact ⟨by rw [HF.out]; rfl, HB0.out⟩
theorem ralike_any (p q : Pp.XMth) (ys1 ys2 : List Value) (w : World) (h1 : MthX w p ys1) (h2 : MthX w q ys2) (n1 : p.params.length <= 1000) (n2 : q.params.length <= 1000) :
 Calls Tryz.prog 65 #[.agg ys1.toArray, .agg ys2.toArray] w fun e w' => e = .returned (.bool (Ly.alikeB p q)) /\ Below w.heap.size w w' := by
 obtain ⟨vp, vc, vk, rfl, x1, x2, x3, _⟩ := h1; obtain ⟨up, uc, uk, rfl, y1, y2, y3, _⟩ := h2; have HE := hide (fun wx (hb : Below w.heap.size w wx) => Types_eq p.params q.params vp up wx (x1.on hb fun _ _ h => h) (y1.on hb fun _ _ h => h) (by omega) (by omega))
 obtain ⟨va1, vd1, rfl, _⟩ := x1.len; obtain ⟨va2, vd2, rfl, _⟩ := x2.len; obtain ⟨va3, vd3, rfl, _⟩ := x3.len; obtain ⟨ua1, ud1, rfl, _⟩ := y1.len; obtain ⟨ua2, ud2, rfl, _⟩ := y2.len; obtain ⟨ua3, ud3, rfl, _⟩ := y3.len; clear x1 x2 x3 y1 y2 y3 n1 n2; obtain ⟨r, hr⟩ : ∃ r, r = Ly.alikeB p q := ⟨_, rfl⟩; have HR := hide (hr.trans (Bool.eq_iff_iff.2 (Iff.refl _))); have HI := hide (Ly.alikeB_iff p q); rw [<- hr] at HI ⊢; clear hr HR; obtain ⟨pn, ps, pa, pp, ⟨pk, pr⟩, pl, pc, px⟩ := p; obtain ⟨qn, qs, qa, qp, ⟨qk, qr⟩, ql, qc, qx⟩ := q; simp only [mthXL] at HE HI ⊢; generalize (⟨pn.toArray⟩ : ByteArray) = PN at *
 generalize (⟨qn.toArray⟩ : ByteArray) = QN at *
 have HB := hide (Ow.bel_alloc2 w (.cells #[.string PN, .bool ps, .bool pa, .slice va1 pp.length vd1, .int .i64 pk, .string ⟨pr.toArray⟩, .int .i64 pl, .slice va2 pc.length vd2, .slice va3 px.length vd3] 39) (.cells #[.string QN, .bool qs, .bool qa, .slice ua1 qp.length ud1, .int .i64 qk, .string ⟨qr.toArray⟩, .int .i64 ql, .slice ua2 qc.length ud2, .slice ua3 qx.length ud3] 39)); have hx1 := hide (Ow.blk_alloc2a w (.cells #[.string PN, .bool ps, .bool pa, .slice va1 pp.length vd1, .int .i64 pk, .string ⟨pr.toArray⟩, .int .i64 pl, .slice va2 pc.length vd2, .slice va3 px.length vd3] 39) (.cells #[.string QN, .bool qs, .bool qa, .slice ua1 qp.length ud1, .int .i64 qk, .string ⟨qr.toArray⟩, .int .i64 ql, .slice ua2 qc.length ud2, .slice ua3 qx.length ud3] 39)); have hx2 := hide (Ow.blk_alloc2b w (.cells #[.string PN, .bool ps, .bool pa, .slice va1 pp.length vd1, .int .i64 pk, .string ⟨pr.toArray⟩, .int .i64 pl, .slice va2 pc.length vd2, .slice va3 px.length vd3] 39) (.cells #[.string QN, .bool qs, .bool qa, .slice ua1 qp.length ud1, .int .i64 qk, .string ⟨qr.toArray⟩, .int .i64 ql, .slice ua2 qc.length ud2, .slice ua3 qx.length ud3] 39)); go_enter Tryz.func65, Tryz.ntmps65; go_wp2_with fail; generalize (w.alloc (.cells #[.string PN, .bool ps, .bool pa, .slice va1 pp.length vd1, .int .i64 pk, .string ⟨pr.toArray⟩, .int .i64 pl, .slice va2 pc.length vd2, .slice va3 px.length vd3] 39)).alloc (.cells #[.string QN, .bool qs, .bool qa, .slice ua1 qp.length ud1, .int .i64 qk, .string ⟨qr.toArray⟩, .int .i64 ql, .slice ua2 qc.length ud2, .slice ua3 qx.length ud3] 39) = wa at *
 refine (HE.out wa HB.out).mono ?_; rintro e w1 ⟨⟨b, rfl, hb⟩, hb1⟩; have HB1 := hide (HB.out.trans (hb1.mono HB.out.size)); have HX1 := (hb1.block _ (Ow.lt_of_blk hx1.out)).trans hx1.out; have HX2 := (hb1.block _ (Ow.lt_of_blk hx2.out)).trans hx2.out; have HQ := hide hb; clear hx1 hx2 HE hb hb1; cases b with
 | false =>
   have HF : Hid (r = false) := hide (by
    cases r with
    | false => rfl
    | true => exact absurd (HQ.out.2 (HI.out.1 rfl).1) (by decide))
   clear HQ HI HX1 HX2; go_wp2_with fail; go_ret; exact ⟨by rw [HF.out]; rfl, HB1.out⟩
 | true =>
   have HP := hide (HQ.out.1 rfl); have c4 := cell_box HX1 4; have c5 := cell_box HX1 5; have d4 := cell_box HX2 4; have d5 := cell_box HX2 5; clear HQ HX1 HX2; by_cases ek : pk = qk
   · by_cases en : pr = qr
     · have HF := hide (HI.out.2 ⟨HP.out, by rw [ek, en]⟩)
       subst ek en; clear HI HP; generalize (⟨pr.toArray⟩ : ByteArray) = S at *
       go_wp2_with fail; go_ret; exact ⟨by rw [HF.out]; simp, HB1.out⟩
     · have HF : Hid (r = false) := hide (by
        cases r with
        | false => rfl
        | true => have h := (HI.out.1 rfl).2; injection h with _ h; exact absurd h en)
       have en' : (pr == qr) = false := by simpa using en
       clear HI HP; go_wp2_with fail; go_ret; exact ⟨by rw [HF.out]; simp [en], HB1.out⟩
   · have HF : Hid (r = false) := hide (by
      cases r with
      | false => rfl
      | true => have h := (HI.out.1 rfl).2; injection h with h _; exact absurd h ek)
     have ek' : (pk == qk) = false := by simpa using ek
     clear HI HP; go_wp2_with fail; go_ret; exact ⟨by rw [HF.out]; simp [ek], HB1.out⟩
def Ly.mea (l : List Pp.XCls) (up : List (List Nat)) : Value -> Nat
 | .string s => match Hr.placeL l s.data.toList with
   | some q => Ly.rkP up q + 1
   | none => 0
 | _ => 0
theorem shp_clsw (w : World) : Ow.Shp (ClsX w) 6 := by
 rintro x ys h; obtain ⟨_, _, _, _, _, _, rfl, _⟩ := cls_open h; refine ⟨rfl, ?_⟩; intro u hu; simp at hu
 rcases hu with rfl | rfl | rfl | rfl | rfl | rfl <;> rfl
theorem row_any {cs : List Pp.XCls} {up : List (List Nat)} (he : Hr.errL cs = 0) (hg : Hr.growL (Hr.allL cs) (Hr.allL cs) = some up) (v : Value) (n : Pp.Bs) (k : Nat) (hk : Hr.placeL (Hr.allL cs) n = some k) (wp w : World) (hwp : Below wp.heap.size wp w) (h : RowX wp 6 (ClsX wp) v (Hr.allL cs)) :
 Calls Tryz.prog 73 #[v, .string ⟨n.toArray⟩] w fun e w' => ∃ v', e = .returned v' /\ Ow.OwnX w' w.heap.size 59 6 (ClsX wp) v' ((Ly.rowP (Hr.allL cs) up k).map (Ly.clP (Hr.allL cs))) /\ Below w.heap.size w w' := by
 have HRw := hide h; have HE := hide he; have HG := hide hg
 have hlen : (Hr.allL cs).length <= 18 := by
  have h1 := ((Pp.eachB_iff cs 10 Pp.clsB).1 (Hr.err_zero he).1).1; have h2 := Hr.all_len cs; have h3 : Hr.base.length = 8 := rfl; omega
 have HAt := hide (fun wx (hb : Below w.heap.size w wx) (s : Pp.Bs) => RAt_any (Hr.allL cs) v s wx (h.on (hwp.trans (hb.mono hwp.size)) fun _ _ h => h.on (hwp.trans (hb.mono hwp.size))) (by unfold maxLen; omega))
 have HWp := hide hwp; obtain ⟨va, vc, rfl, _⟩ := h.len; obtain ⟨nn, hnn⟩ : ∃ q, q = (Hr.allL cs).length := ⟨_, rfl⟩; have HN := hide hnn; rw [<- hnn] at HRw HAt hlen ⊢; have HK := hide hk
 have hkl : k < (Hr.allL cs).length := by
  obtain ⟨c, h1, _⟩ := Hr.placeL_lt hk; exact (List.getElem?_eq_some_iff.1 h1).1
 have HLen := hide (Ly.row_len he hg hkl); have HNil := hide (Ly.place_nil (Hr.err_zero he).1); clear h he hg hk hnn hkl hwp; obtain ⟨j0, hj, hj0, hj1, hj2⟩ := Ow.info_of Ow.i_cls; go_enter Tryz.func73, Tryz.ntmps73; go_wp2_with fail
 go_loopw [1, 5] (fun nv ov wr => ∃ (s : Pp.Bs) (la : Option Addr) (lc ln : Nat) (done : List Nat), nv = .string ⟨s.toArray⟩ /\ ov = .slice la ln lc /\ Hid (ln = done.length) /\ Hid (Below w.heap.size w wr) /\ Hid (Ow.OwnX wr w.heap.size 59 6 (ClsX wp) (.slice la ln lc) (done.map (Ly.clP (Hr.allL cs)))) /\
  Hid ((s = [] /\ done = Ly.rowP (Hr.allL cs) up k) \/ ∃ q, Hr.placeL (Hr.allL cs) s = some q /\ done ++ Ly.rowP (Hr.allL cs) up q = Ly.rowP (Hr.allL cs) up k)) (fun nv _ _ => Ly.mea (Hr.allL cs) up nv)
 case atStart => exact ⟨n, none, 0, 0, [], rfl, rfl, hide rfl, hide (Below.refl _ _), hide (Ow.OwnX.nil _ _ _ _ _), hide (.inr ⟨k, HK.out, rfl⟩)⟩
 case round =>
  obtain ⟨s, la, lc, ln, done, rfl, rfl, HLn, HB, HO, HS⟩ := hrel; by_cases hs : s = []
  · have HDn : Hid (done = Ly.rowP (Hr.allL cs) up k) := hide (by
     rcases HS.out with h | ⟨q, h1, _⟩
     · exact h.2
     · rw [hs, HNil.out] at h1; cases h1)
    subst hs; go_wp2_with fail; go_ret; refine ⟨_, rfl, ?_, HB.out⟩; rw [<- HDn.out]; exact HO.out
  · obtain ⟨q, hq, hdone⟩ : ∃ q, Hr.placeL (Hr.allL cs) s = some q /\ done ++ Ly.rowP (Hr.allL cs) up q = Ly.rowP (Hr.allL cs) up k := by
     rcases HS.out with h | h
     · exact absurd h.1 hs
     · exact h
    have hqn : q < nn := by
     obtain ⟨c, h1, _⟩ := Hr.placeL_lt hq; rw [HN.out]; exact (List.getElem?_eq_some_iff.1 h1).1
    have hql : q < (Hr.allL cs).length := by rw [<- HN.out]; exact hqn
    have hx := Ly.at_of hql; have HCl : Hid (∃ x, x = Ly.clP (Hr.allL cs) q) := hide ⟨_, rfl⟩; obtain ⟨x, hxe⟩ := HCl.out; rw [<- hxe] at hx; have HXe := hide hxe; obtain ⟨g, o, rfl, ys, wf, hc⟩ := Ow.row_at' HRw.out hx; have HWf := hide wf; have hG := hide (fun wx (hb : Below w.heap.size w wx) => hc wx (HWp.out.trans (hb.mono HWp.out.size))); obtain ⟨ia, ic, fa, fc, ma, mc, rfl, _⟩ := cls_open wf; have HAc := HAt.out wr HB.out s; rw [hq] at HAc; have HAc := hide HAc; simp only [Hr.placeI] at HAc
    -- what comes behind
    have HNx : Hid ((Hr.superS x = [] /\ done ++ [q] = Ly.rowP (Hr.allL cs) up k) \/ ∃ q', Hr.placeL (Hr.allL cs) (Hr.superS x) = some q' /\ (done ++ [q]) ++ Ly.rowP (Hr.allL cs) up q' = Ly.rowP (Hr.allL cs) up k) := hide (by
     cases hsl : Hr.superL (Ly.clP (Hr.allL cs) q) with
     | none =>
       left; rw [Ly.row_none HE.out HG.out hsl] at hdone; refine ⟨?_, hdone⟩; unfold Hr.superS; rw [hxe, hsl]
       rfl
     | some z =>
       right; obtain ⟨q', e1, _⟩ := Ly.super_at HE.out HG.out hql hsl; rw [Ly.row_some HE.out HG.out hql hsl e1] at hdone; refine ⟨q', ?_, by rw [List.append_assoc]; exact hdone⟩
       unfold Hr.superS; rw [hxe, hsl]
       exact e1)
    have HMe : Hid (Ly.mea (Hr.allL cs) up (.string ⟨(Hr.superS x).toArray⟩) < Ly.mea (Hr.allL cs) up (.string ⟨s.toArray⟩)) := hide (by
     show (match Hr.placeL (Hr.allL cs) (Hr.superS x) with | some q => Ly.rkP up q + 1 | none => 0) < (match Hr.placeL (Hr.allL cs) s with | some q => Ly.rkP up q + 1 | none => 0)
     rw [hq]; cases hsl : Hr.superL (Ly.clP (Hr.allL cs) q) with
     | none =>
       have : Hr.superS x = [] := by unfold Hr.superS; rw [hxe, hsl]; rfl
       rw [this, HNil.out]; show 0 < Ly.rkP up q + 1; omega
     | some z =>
       obtain ⟨q', e1, _, _, _, e3⟩ := Ly.super_at HE.out HG.out hql hsl; have : Hr.superS x = z := by unfold Hr.superS; rw [hxe, hsl]; rfl
       rw [this, e1]; show Ly.rkP up q' + 1 < Ly.rkP up q + 1
       omega)
    have HDl : Hid (done.length <= 19) := hide (by
     have h1 := congrArg List.length hdone; rw [List.length_append] at h1; have := HLen.out
     omega)
    have hne : (s == []) = false := by simpa using hs
    have hqi : (q : Int) < (nn : Int) := by omega
    have hni : (nn : Int) <= 18 := by omega
    clear HS hs hx wf hc HCl hql hdone hq hxe; go_wp2_with fail; refine HAc.out.mono ?_; rintro e w1 ⟨rfl, hb1⟩; have HB1 := hide (HB.out.trans (hb1.mono HB.out.size)); have r0 := hG.out w1 HB1.out 0 _ rfl; have r1 := hG.out w1 HB1.out 1 _ rfl; have r2 := hG.out w1 HB1.out 2 _ rfl; have r3 := hG.out w1 HB1.out 3 _ rfl; have r4 := hG.out w1 HB1.out 4 _ rfl; have r5 := hG.out w1 HB1.out 5 _ rfl; rw [Nat.add_zero] at r0; have HO1 := hide (HO.out.on hb1 fun _ _ h => h); have hA : Below w1.heap.size w1 (w1.alloc (.cells #[.string ⟨x.name.toArray⟩, .bool x.iface, .string ⟨x.super.toArray⟩, .slice ia x.ifaces.length ic, .slice fa x.fields.length fc, .slice ma x.methods.length mc] 59)) := (Below.refl _ _).alloc (Nat.le_refl _) _; have hA2 : Below w1.heap.size w1 ((w1.alloc (.cells #[.string ⟨x.name.toArray⟩, .bool x.iface, .string ⟨x.super.toArray⟩, .slice ia x.ifaces.length ic, .slice fa x.fields.length fc, .slice ma x.methods.length mc] 59)).alloc (.cells #[.string ⟨x.name.toArray⟩, .bool x.iface, .string ⟨x.super.toArray⟩, .slice ia x.ifaces.length ic, .slice fa x.fields.length fc, .slice ma x.methods.length mc] 59)) := Ow.bel_alloc2 _ _ _; have hbx := heap_alloc_new w1 (.cells #[.string ⟨x.name.toArray⟩, .bool x.iface, .string ⟨x.super.toArray⟩, .slice ia x.ifaces.length ic, .slice fa x.fields.length fc, .slice ma x.methods.length mc] 59); have b0 := cell_box hbx 0; have b1 := cell_box hbx 1; have b2 := cell_box hbx 2; have b3 := cell_box hbx 3; have b4 := cell_box hbx 4; have b5 := cell_box hbx 5; have HX2 := hide (Ow.blk_alloc2a w1 (.cells #[.string ⟨x.name.toArray⟩, .bool x.iface, .string ⟨x.super.toArray⟩, .slice ia x.ifaces.length ic, .slice fa x.fields.length fc, .slice ma x.methods.length mc] 59) (.cells #[.string ⟨x.name.toArray⟩, .bool x.iface, .string ⟨x.super.toArray⟩, .slice ia x.ifaces.length ic, .slice fa x.fields.length fc, .slice ma x.methods.length mc] 59)); have HO2 := hide (HO1.out.on hA2 fun _ _ h => h); have HR2 : Hid (RowX ((w1.alloc (.cells #[.string ⟨x.name.toArray⟩, .bool x.iface, .string ⟨x.super.toArray⟩, .slice ia x.ifaces.length ic, .slice fa x.fields.length fc, .slice ma x.methods.length mc] 59)).alloc (.cells #[.string ⟨x.name.toArray⟩, .bool x.iface, .string ⟨x.super.toArray⟩, .slice ia x.ifaces.length ic, .slice fa x.fields.length fc, .slice ma x.methods.length mc] 59)) 6 (ClsX wp) (.slice (some ⟨(w1.alloc (.cells #[.string ⟨x.name.toArray⟩, .bool x.iface, .string ⟨x.super.toArray⟩, .slice ia x.ifaces.length ic, .slice fa x.fields.length fc, .slice ma x.methods.length mc] 59)).heap.size, 0, none⟩) 1 1) [x]) := hide (Ow.row_one' (P := ClsX wp) (x := x) HWf.out); have HB2 := hide (HB1.out.trans (hA2.mono HB1.out.size)); have hll : done.length <= 19 := HDl.out; have HOl := hide (fun kk (hk : (Value.slice la ln lc).ownBlock = some kk) => (own_lt HO1.out hk).1); clear HAc hb1 hA hA2 hbx HO HO1
    go_wp2_with (at_builtin; refine Ow.wpList_app rfl (.tmp 15) (.tmp 17) 22 rfl Tryz.underlying22 hj hj0 hj1 hj2 (by decide) (shp_clsw wp) (by first | rfl | simp [Act.eval, Act.put]) HO2.out (by first | rfl | simp [Act.eval, Act.put]) HR2.out (by simp; omega) (by decide) HB2.out.size ?_)
    intro v5 w5 ho5 hg5; have HB5 := hide (HB2.out.trans (Ow.bel_grown HO2.out HB2.out.size hg5)); have hX5 := (hg5.block w1.heap.size (Ow.lt_of_blk HX2.out) (fun e => absurd (HOl.out _ e.symm) (Nat.lt_irrefl _))).trans HX2.out; have p0 := cell_box hX5 0; have p1 := cell_box hX5 1; have p2 := cell_box hX5 2; have p3 := cell_box hX5 3; have p4 := cell_box hX5 4; have p5 := cell_box hX5 5; have HSu := hide (RSuper_any x _ w5 (HWf.out.on (HWp.out.trans (HB5.out.mono HWp.out.size)))); have HO5 : Hid (Ow.OwnX w5 w.heap.size 59 6 (ClsX wp) v5 ((done ++ [q]).map (Ly.clP (Hr.allL cs)))) := hide (by rw [List.map_append, List.map_cons, List.map_nil, <- HXe.out]; exact ho5)
    obtain ⟨xa, xc, hv5⟩ := HO5.out.shape; have hn5 : ((done ++ [q]).map (Ly.clP (Hr.allL cs))).length = (done ++ [q]).length := List.length_map ..; rw [hn5] at hv5; obtain ⟨n5, hn6⟩ : ∃ y, y = (done ++ [q]).length := ⟨_, rfl⟩; rw [<- hn6] at hv5; have HN6 := hide hn6; clear hn5 ho5 hg5 hX5 HO2 HR2 HB2 HX2 b0 b1 b2 b3 b4 b5 hn6; subst hv5; go_wp2_with fail; refine HSu.out.mono ?_; rintro e w6 ⟨rfl, hb6⟩; have HB6 := hide (HB5.out.trans (hb6.mono HB5.out.size)); have HO6 := hide (HO5.out.on hb6 fun _ _ h => h); clear HSu hb6; go_wp2_with fail
    go_roundw
    case rel => exact ⟨Hr.superS x, xa, xc, n5, done ++ [q], rfl, rfl, HN6, HB6, HO6, HNx⟩
    case measure => exact HMe.out
end Go.Proofs.YtjlappamkfjlkaaGreatDoor

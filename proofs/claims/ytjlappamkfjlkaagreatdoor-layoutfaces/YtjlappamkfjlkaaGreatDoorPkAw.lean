/- What the laws of this seat lean on: 1 texts. -/
import Derived.Test.YtjlappamkfjlkaaGreatDoorPkAv
set_option maxRecDepth 100000
set_option maxHeartbeats 64000000
set_option linter.unusedVariables false
set_option linter.unusedSimpArgs false
namespace Go.Proofs.YtjlappamkfjlkaaGreatDoor
open Go.RowKit
namespace Ly
open Pp Hr
theorem NFar.head' {l : List XCls} {x y z : Bs} (s : NStep l x y) (h : NFar l y z) : NFar l x z :=
 NFar.ind (C := fun z => NFar l x z) (.more (.refl x) s) (fun _ s ih => .more ih s) h
theorem up_ab {cs : List XCls} {up : List (List Nat)} (he : errL cs = 0) (hg : growL (allL cs) (allL cs) = some up) {k i : Nat} (hk : k < (allL cs).length) (hi : i < (allL cs).length) {out : List Bs} (hR : RInv (allL cs) (clP (allL cs) k).name out out.length) :
 ((clP (allL cs) i).iface = true /\ (clP (allL cs) i).name ∈ out) ↔ i ∈ (pnet (allL cs) up).ab k := by
 have ho := (err_zero he).2.1; have pk := ho k _ (at_of hk); have pi := ho i _ (at_of hi); rw [ab_far he hg _ k hk (Nat.lt_succ_self _) i, hR.stop]; refine and_congr_right fun _ => ⟨fun h => ?_, fun h => ?_⟩
 · obtain ⟨j, h1, h2⟩ := far_of_names hg pk h
   rw [pi] at h1; cases h1
   rcases h2 with h2 | h2
   · rw [h2, pk] at pi; cases pi; exact .inl rfl
   · exact .inr h2
 · rcases h with rfl | h
   · exact .refl _
   · obtain ⟨d, h1, y, h2, h3⟩ := names_of_far ho hg h (at_of hk)
     rw [at_of hi] at h1; cases h1; exact NFar.head' ⟨k, _, pk, at_of hk, h2⟩ h3
end Ly
theorem chain9_below {B b : Nat} {w0 w : World} (hB : B <= b) (h : Below B w0 w) (u0 u1 u2 u3 u4 u5 u6 u7 u8 : Value) : Below B w0 (((((((((w.setCell ⟨b, 0, none⟩ u0).setCell ⟨b, 1, none⟩ u1).setCell ⟨b, 2, none⟩ u2).setCell ⟨b, 3, none⟩ u3).setCell ⟨b, 4, none⟩ u4).setCell ⟨b, 5, none⟩ u5).setCell ⟨b, 6, none⟩ u6).setCell ⟨b, 7, none⟩ u7).setCell ⟨b, 8, none⟩ u8) :=
 (((((((((h.setCell hB u0).setCell hB u1).setCell hB u2).setCell hB u3).setCell hB u4).setCell hB u5).setCell hB u6).setCell hB u7).setCell hB u8)
theorem set9_blk {B b : Nat} {w0 w : World} {t : TypeId} {c0 c1 c2 c3 c4 c5 c6 c7 c8 : Value} (hk : w.heap[b]? = some (.cells #[c0, c1, c2, c3, c4, c5, c6, c7, c8] t (0, 0))) (hB : B <= b) (h : Below B w0 w) (u0 u1 u2 u3 u4 u5 u6 u7 u8 : Value) : ∃ W, W = (((((((((w.setCell ⟨b, 0, none⟩ u0).setCell ⟨b, 1, none⟩ u1).setCell ⟨b, 2, none⟩ u2).setCell ⟨b, 3, none⟩ u3).setCell ⟨b, 4, none⟩ u4).setCell ⟨b, 5, none⟩ u5).setCell ⟨b, 6, none⟩ u6).setCell ⟨b, 7, none⟩ u7).setCell ⟨b, 8, none⟩ u8) /\ W.heap[b]? = some (.cells #[u0, u1, u2, u3, u4, u5, u6, u7, u8] t (0, 0)) /\ Below B w0 W := by
 refine ⟨_, rfl, ?_, chain9_below hB h u0 u1 u2 u3 u4 u5 u6 u7 u8⟩; have h0 := put_blk (k := 0) hk u0; rw [show (#[c0, c1, c2, c3, c4, c5, c6, c7, c8] : Array Value).setIfInBounds 0 u0 = #[u0, c1, c2, c3, c4, c5, c6, c7, c8] from rfl] at h0
 have h1 := put_blk (k := 1) h0 u1; rw [show (#[u0, c1, c2, c3, c4, c5, c6, c7, c8] : Array Value).setIfInBounds 1 u1 = #[u0, u1, c2, c3, c4, c5, c6, c7, c8] from rfl] at h1
 have h2 := put_blk (k := 2) h1 u2; rw [show (#[u0, u1, c2, c3, c4, c5, c6, c7, c8] : Array Value).setIfInBounds 2 u2 = #[u0, u1, u2, c3, c4, c5, c6, c7, c8] from rfl] at h2
 have h3 := put_blk (k := 3) h2 u3; rw [show (#[u0, u1, u2, c3, c4, c5, c6, c7, c8] : Array Value).setIfInBounds 3 u3 = #[u0, u1, u2, u3, c4, c5, c6, c7, c8] from rfl] at h3
 have h4 := put_blk (k := 4) h3 u4; rw [show (#[u0, u1, u2, u3, c4, c5, c6, c7, c8] : Array Value).setIfInBounds 4 u4 = #[u0, u1, u2, u3, u4, c5, c6, c7, c8] from rfl] at h4
 have h5 := put_blk (k := 5) h4 u5; rw [show (#[u0, u1, u2, u3, u4, c5, c6, c7, c8] : Array Value).setIfInBounds 5 u5 = #[u0, u1, u2, u3, u4, u5, c6, c7, c8] from rfl] at h5
 have h6 := put_blk (k := 6) h5 u6; rw [show (#[u0, u1, u2, u3, u4, u5, c6, c7, c8] : Array Value).setIfInBounds 6 u6 = #[u0, u1, u2, u3, u4, u5, u6, c7, c8] from rfl] at h6
 have h7 := put_blk (k := 7) h6 u7; rw [show (#[u0, u1, u2, u3, u4, u5, u6, c7, c8] : Array Value).setIfInBounds 7 u7 = #[u0, u1, u2, u3, u4, u5, u6, u7, c8] from rfl] at h7
 have h8 := put_blk (k := 8) h7 u8; rw [show (#[u0, u1, u2, u3, u4, u5, u6, u7, c8] : Array Value).setIfInBounds 8 u8 = #[u0, u1, u2, u3, u4, u5, u6, u7, u8] from rfl] at h8
 exact h8
theorem kx9 {b : Nat} {w : World} {t : TypeId} (t0 : Ow.Ty w b t) (u0 u1 u2 u3 u4 u5 u6 u7 u8 : Value) : Ow.Kx t w (((((((((w.setCell ⟨b, 0, none⟩ u0).setCell ⟨b, 1, none⟩ u1).setCell ⟨b, 2, none⟩ u2).setCell ⟨b, 3, none⟩ u3).setCell ⟨b, 4, none⟩ u4).setCell ⟨b, 5, none⟩ u5).setCell ⟨b, 6, none⟩ u6).setCell ⟨b, 7, none⟩ u7).setCell ⟨b, 8, none⟩ u8) := by
 have t1 := t0.set b 0 u0; have t2 := t1.set b 1 u1; have t3 := t2.set b 2 u2; have t4 := t3.set b 3 u3; have t5 := t4.set b 4 u4; have t6 := t5.set b 5 u5; have t7 := t6.set b 6 u6; have t8 := t7.set b 7 u7; have t9 := t8.set b 8 u8; exact ((((((((Ow.Kx.set t0 0 u0).trans (Ow.Kx.set t1 1 u1)).trans (Ow.Kx.set t2 2 u2)).trans (Ow.Kx.set t3 3 u3)).trans (Ow.Kx.set t4 4 u4)).trans (Ow.Kx.set t5 5 u5)).trans (Ow.Kx.set t6 6 u6)).trans (Ow.Kx.set t7 7 u7)).trans (Ow.Kx.set t8 8 u8)
theorem keeps_any {cs : List Pp.XCls} {up : List (List Nat)} (he : Hr.errL cs = 0) (hg : Hr.growL (Hr.allL cs) (Hr.allL cs) = some up) (hl : Pp.Light cs) (v : Value) (k : Nat) (hk : k < (Hr.allL cs).length) (ys : List Value) (w : World) (hr : RowX w 6 (ClsX w) v (Hr.allL cs)) (h : ClsX w (Ly.clP (Hr.allL cs) k) ys) :
 Calls Tryz.prog 38 #[v, .agg ys.toArray] w fun e w' => e = .returned (.int .i64 (Ly.firstL (Ly.faceF (Ly.pnet (Hr.allL cs) up) k) (List.range (Hr.allL cs).length))) /\ Below w.heap.size w w' := by
 have hlen : (Hr.allL cs).length <= 22 := by show (Hr.base ++ cs).length <= 22; rw [List.length_append]; show 8 + cs.length <= 22; have := hl.1; omega
 have pk := (Hr.err_zero he).2.1 k _ (Ly.at_of hk); obtain ⟨c, hc⟩ : ∃ y, y = Ly.clP (Hr.allL cs) k := ⟨_, rfl⟩; rw [<- hc] at h pk
 have hnl : c.name.length <= maxLen := by
  obtain ⟨vp, vc, vk, rfl, p1, i1, k1, z1⟩ := h; exact z1.1
 have HIf := hide (Hr.light_ifs hl); have HRe := hide (fun wx (hb : Below w.heap.size w wx) => reach_any (Hr.allL cs) v c.name wx (hr.on hb fun _ _ h => h.on hb) (by omega) HIf.out hnl)
 have HMe := hide (fun wx (hb : Below w.heap.size w wx) nm => rmethod_any he hg hl v c.name nm k pk wx (hr.on hb fun _ _ h => h.on hb)); have HMn := hide (fun nm o (ho : Ly.methP (Ly.pnet (Hr.allL cs) up) k nm = some o) => Ly.methP_name he hg hk ho); have HAb := hide (fun i out (hi : i < (Hr.allL cs).length) (hR : Hr.RInv (Hr.allL cs) c.name out out.length) => Ly.up_ab (k := k) he hg hk hi (hc ▸ hR)); have HPr := hide (fun i (hi : i < (Hr.allL cs).length) => Ly.all_pars (Hr.err_zero he).1 (Ly.at_of hi)); have HFc := hide (fun i (hi : i < (Hr.allL cs).length) => Ly.all_facts (Hr.err_zero he).1 (Ly.at_of hi)); obtain ⟨N, hN⟩ : ∃ N, N = Ly.pnet (Hr.allL cs) up := ⟨_, rfl⟩; have HCl : Hid (∀ i, N.cl i = Ly.clP (Hr.allL cs) i) := hide fun i => by rw [hN]; rfl
 rw [<- hN] at HMe HMn HAb ⊢; obtain ⟨L, hL⟩ : ∃ L, L = Hr.allL cs := ⟨_, rfl⟩; rw [<- hL] at hr hk hlen pk HIf HRe HAb HPr HFc HCl ⊢; have HRow := hide hr; obtain ⟨ia, ic, fa, fc, ma, mc, rfl, _, x2, x3⟩ := cls_open h; obtain ⟨va, vc, rfl, _⟩ := hr.len; clear x2 x3 h hr he hg hl hN hk pk hL hc hnl; obtain ⟨r, hr⟩ : ∃ r, r = Ly.firstL (Ly.faceF N k) (List.range L.length) := ⟨_, rfl⟩; have HR := hide hr; rw [<- hr]; clear hr; obtain ⟨n, hn⟩ : ∃ q, q = L.length := ⟨_, rfl⟩; have HN := hide hn; rw [<- hn] at HR HAb HPr HFc HRe HMe hlen ⊢; clear hn; generalize (⟨c.name.toArray⟩ : ByteArray) = NB at *
 generalize (⟨c.super.toArray⟩ : ByteArray) = SB at *
 generalize c.iface = fi at *
 generalize c.ifaces.length = ni at *
 generalize c.fields.length = nf at *
 generalize c.methods.length = nm at *
 have hn1 : (n : Int) <= 22 := by omega
 have HB0 := hide ((Below.refl w.heap.size w).alloc (Nat.le_refl _) (.cells #[.string NB, .bool fi, .string SB, .slice ia ni ic, .slice fa nf fc, .slice ma nm mc] 59)); have HX0 := hide (heap_alloc_new w (.cells #[.string NB, .bool fi, .string SB, .slice ia ni ic, .slice fa nf fc, .slice ma nm mc] 59)); go_enter Tryz.func38, Tryz.ntmps38; go_wp2_with fail; generalize w.alloc (.cells #[.string NB, .bool fi, .string SB, .slice ia ni ic, .slice fa nf fc, .slice ma nm mc] 59) = wa at *
 refine (HRe.out wa HB0.out).mono ?_; rintro e w1 ⟨v1, out, rfl, ho1, hri, hb1⟩; have HB1 := hide (HB0.out.trans (hb1.mono HB0.out.size)); have HX1 := hide ((hb1.block _ (Ow.lt_of_blk HX0.out)).trans HX0.out)
 have HHas := hide (fun wx (hb : Below w1.heap.size w1 wx) nm => has_any out v1 nm wx ((ho1.row Ow.shp_str fun _ _ h => h).on hb fun _ _ h => h) (by
  have h1 := hri.few; have h2 := Hr.most_le HIf.out; unfold Hr.mostL at h1; unfold maxLen; have h3 := HN.out
  omega))
 have HAb2 := hide (fun i hi => HAb.out i out hi hri); clear hb1 ho1 hri HRe HAb HX0; go_wp2_with fail
 go_loopw [6] (fun i wr => ∃ j : Nat, j <= n /\ i = .int .i64 j /\ Hid (Below w1.heap.size w1 wr) /\ Hid (Ly.firstL (Ly.faceF N k) ((List.range n).take j) = 0)) (fun i _ => n - (intOf i).toNat)
 case atStart => exact ⟨0, Nat.zero_le _, rfl, hide (Below.refl _ _), hide rfl⟩
 case round =>
  obtain ⟨j, hj, rfl, HB, HZ⟩ := hrel; have HBw := hide (HB1.out.trans (HB.out.mono HB1.out.size)); by_cases hlt : j < n
  · have hx := Ly.at_of (l := L) (k := j) (by rw [<- HN.out]; exact hlt)
    have hxr : (List.range n)[j]? = some j := by simp [hlt]
    have HStop := hide (fun hf => Ly.firstL_stop (f := Ly.faceF N k) HZ.out hxr hf); have HTake := hide (Ly.firstL_take (f := Ly.faceF N k) HZ.out hxr)
    have hface : Ly.faceF N k j = if j ∈ N.ab k then Ly.firstL (Ly.lackF N k) (Ly.clP L j).methods else 0 := by
     have h1 : Ly.faceF N k j = if j ∈ N.ab k then Ly.firstL (Ly.lackF N k) (N.cl j).methods else 0 := rfl
     rw [h1, HCl.out]
    rw [<- HR.out] at HStop; rw [hface] at HStop HTake; have hab := HAb2.out j hlt; have hpr := HPr.out j hlt; obtain ⟨_, _, _, _, hm6⟩ := HFc.out j hlt; obtain ⟨d, hd⟩ : ∃ y, y = Ly.clP L j := ⟨_, rfl⟩; rw [<- hd] at hx HStop HTake hab hpr hm6; obtain ⟨g, o, rfl, ys, wf, hc⟩ := Ow.row_at' HRow.out hx; obtain ⟨ia', ic', fa', fc', ma', mc', rfl, _, _, x3⟩ := cls_open wf; have HPd := hide hpr; have HRm := hide x3; have HCc := hide hc; have q0 := hc wr HBw.out 0 _ rfl; have q1 := hc wr HBw.out 1 _ rfl; rw [Nat.add_zero] at q0; have hlt' : (j : Int) < (n : Int) := by omega
    have HHn := hide (HHas.out wr HB.out d.name); clear hc x3 wf hx hxr hface HZ hpr; obtain ⟨np, hnp⟩ : ∃ q, q = d.methods.length := ⟨_, rfl⟩; have HNp := hide hnp; rw [<- hnp] at HRm HCc hm6; have hnp' : (np : Int) <= 6 := by omega
    by_cases hif : d.iface = true
    · rw [hif] at q1
      have HMem : Hid (j ∈ N.ab k ↔ d.name ∈ out) := hide (by rw [<- hab]; simp [hif])
      clear hab hnp hd; generalize (⟨d.name.toArray⟩ : ByteArray) = DN at *
      obtain ⟨b, hb⟩ : ∃ y, y = decide (d.name ∈ out) := ⟨_, rfl⟩; rw [<- hb] at HHn; have HBb : Hid (b = true ↔ j ∈ N.ab k) := hide (by rw [hb, decide_eq_true_eq]; exact HMem.out.symm)
      clear hb HMem; go_wp2_with fail; refine HHn.out.mono ?_; rintro e w2 ⟨rfl, hb2⟩; have HB2 := hide (HB.out.trans (hb2.mono HB.out.size)); clear HHn hb2 q0 q1; cases b with
      | false =>
        have HT2 := hide (HTake.out.trans (if_neg (fun h => absurd (HBb.out.2 h) (by decide))))
        clear HTake HStop; go_wp2_with fail
        go_roundw
        case rel => exact ⟨j + 1, by omega, by go_num, HB2, HT2⟩
        case measure => simp [intOf]; omega
      | true =>
        have HSt2 : Hid (Ly.firstL (Ly.lackF N k) d.methods ≠ 0 -> r = Ly.firstL (Ly.lackF N k) d.methods) := hide (fun h => by
         have h1 := HStop.out; rw [if_pos (HBb.out.1 rfl)] at h1
         exact h1 h)
        have HTk2 := hide (HTake.out.trans (if_pos (HBb.out.1 rfl))); clear HTake HStop HBb; go_wp2_with fail
        go_loopw [7] (fun i wr => ∃ i' : Nat, i' <= np /\ i = .int .i64 i' /\ Hid (Below w1.heap.size w1 wr) /\ Hid (Ly.firstL (Ly.lackF N k) (d.methods.take i') = 0)) (fun i _ => np - (intOf i).toNat)
        case atStart => exact ⟨0, Nat.zero_le _, rfl, HB2, hide rfl⟩
        case round =>
         clear HB HBw HB2; obtain ⟨i, hi, rfl, HB, HZ⟩ := hrel; have HBw := hide (HB1.out.trans (HB.out.mono HB1.out.size)); have HX2 := hide ((HB.out.block _ (Ow.lt_of_blk HX1.out)).trans HX1.out); have q5 := HCc.out wr HBw.out 5 _ rfl; by_cases hil : i < np
         · obtain ⟨m, hx⟩ : ∃ x, d.methods[i]? = some x := ⟨d.methods[i]'(by rw [<- HNp.out]; exact hil), List.getElem?_eq_getElem _⟩
           have HSt3 := hide (fun hf => Ly.firstL_stop (f := Ly.lackF N k) HZ.out hx hf); have HTk3 := hide (Ly.firstL_take (f := Ly.lackF N k) HZ.out hx); obtain ⟨g2, o2, e3, zs, wf, hc⟩ := Ow.row_at' HRm.out hx; subst e3; have HCk := hide hc; have HMf := hide wf; have hmp := HPd.out m (List.mem_of_getElem? hx); obtain ⟨vp, vc', vk, rfl, z1, z2, z3, _⟩ := wf; obtain ⟨ap, cp, rfl, _⟩ := z1.len; obtain ⟨ac, cc, rfl, _⟩ := z2.len; obtain ⟨ak, ck, rfl, _⟩ := z3.len; simp only [mthXL] at HMf HCk; have hil' : (i : Int) < (np : Int) := by omega
           have HMc := hide (fun wx (hb : Below w.heap.size w wx) => HMe.out wx hb m.name)
           have HRs : Hid (Ly.lackF N k m ≠ 0 -> r = Ly.lackF N k m) := hide (fun h => by
            have h1 := HSt3.out h; have h2 := HSt2.out (by rw [h1]; exact h)
            rw [h2, h1])
           obtain ⟨lk, hlk⟩ : ∃ y, y = Ly.lackF N k m := ⟨_, rfl⟩; have HLk := hide hlk; unfold Ly.lackF at HLk; rw [<- hlk] at HTk3 HRs; have HMnm := hide (HMn.out m.name); generalize Ly.methP N k m.name = res at HMc HLk HMnm; clear hx hc z1 z2 z3 HZ hlk HSt3; go_wp2_with fail
           have HS := hide (fun wz (hb : Below wr.heap.size wr wz) => show wz.cell? ⟨w.heap.size, 0, none⟩ = some (.string NB) /\ wz.cell? ⟨g, o + j * 6 + 5, none⟩ = some (.slice (some ⟨g2, o2, none⟩) np mc') /\ wz.cell? ⟨g2, o2 + i * 9, none⟩ = some (.string ⟨m.name.toArray⟩) from by
            have hz := (hb.block _ (Ow.lt_of_blk HX2.out)).trans HX2.out; have h1 := HCc.out wz (HBw.out.trans (hb.mono HBw.out.size)) 5 _ rfl; have h2 := HCk.out wz (HBw.out.trans (hb.mono HBw.out.size)) 0 _ rfl; rw [Nat.add_zero] at h2
            exact ⟨cell_box hz 0, h1, h2⟩)
           have HBz : Hid (Below wr.heap.size wr wr.drew) := hide (Below.drew (Below.refl _ _)); have HBd : Hid (∀ o, Below wr.heap.size wr (wr.alloc o).drew) := hide fun o => ((Below.refl wr.heap.size wr).alloc (Nat.le_refl _) o).trans (Below.drew (Below.refl _ _)); clear q5; cases res with
           | none =>
             have h9 : lk = 5 := HLk.out; have HF : Hid (r = 5) := hide (by rw [HRs.out (by rw [h9]; decide), h9])
             clear h9
             go_region_held3 (fun wz => wz.cell? ⟨w.heap.size, 0, none⟩ = some (.string NB) /\ wz.cell? ⟨g, o + j * 6 + 5, none⟩ = some (.slice (some ⟨g2, o2, none⟩) np mc') /\ wz.cell? ⟨g2, o2 + i * 9, none⟩ = some (.string ⟨m.name.toArray⟩)) (first | with_reducible exact HS.out _ HBz.out | with_reducible exact HS.out _ (HBd.out _) | with_reducible exact HS.out _ (HBz.out.alloc HBz.out.size _) | with_reducible exact HS.out _ (chain9_below (Nat.le_refl _) HBz.out _ _ _ _ _ _ _ _ _))
              ((go_at_call 48
                with_reducible refine (HMc.out _ ?hbw).mono ?_
                case hbw => exact HBw.out.trans ((by first | with_reducible exact HBz.out | with_reducible exact HBd.out _ : Below wr.heap.size wr _).mono HBw.out.size)
                rintro e w5 ⟨⟨zs, rfl, hz1, hz2⟩, hb5⟩; have HBz := hide ((by first | with_reducible exact HBz.out.trans (hb5.mono HBz.out.size) | with_reducible exact (HBd.out _).trans (hb5.mono (HBd.out _).size) : Below wr.heap.size wr w5))
                have hzs := hz2 rfl; subst hzs
                first
                 | (have hk := (hb5.block wr.heap.size (by show _ < (wr.heap.push _).size; simp)).trans (heap_alloc_new wr (.cells #[.string ⟨#[]⟩, .bool false, .bool false, .slice none 0 0, .int .i64 0, .string ⟨#[]⟩, .int .i64 0, .slice none 0 0, .slice none 0 0] 39))
                    have k0 := cell_box hk 0; have z0 : w5.frozen? ⟨wr.heap.size, 0, none⟩ = false := Ow.fzl_blk hk 0; have k1 := cell_box hk 1; have z1 : w5.frozen? ⟨wr.heap.size, 1, none⟩ = false := Ow.fzl_blk hk 1; have k2 := cell_box hk 2; have z2 : w5.frozen? ⟨wr.heap.size, 2, none⟩ = false := Ow.fzl_blk hk 2; have k3 := cell_box hk 3; have z3 : w5.frozen? ⟨wr.heap.size, 3, none⟩ = false := Ow.fzl_blk hk 3; have k4 := cell_box hk 4; have z4 : w5.frozen? ⟨wr.heap.size, 4, none⟩ = false := Ow.fzl_blk hk 4; have k5 := cell_box hk 5; have z5 : w5.frozen? ⟨wr.heap.size, 5, none⟩ = false := Ow.fzl_blk hk 5; have k6 := cell_box hk 6; have z6 : w5.frozen? ⟨wr.heap.size, 6, none⟩ = false := Ow.fzl_blk hk 6; have k7 := cell_box hk 7; have z7 : w5.frozen? ⟨wr.heap.size, 7, none⟩ = false := Ow.fzl_blk hk 7; have k8 := cell_box hk 8; have z8 : w5.frozen? ⟨wr.heap.size, 8, none⟩ = false := Ow.fzl_blk hk 8)
                 | skip
                clear hb5 hz1 hz2
                simp only [zeroM, Option.map_none, Option.getD_none]))
             all_goals
              clear HRs HSt2 HTk2 HTk3 HLk HMnm HS HMc
              first
               | (have hB7 := HBz.out.alloc HBz.out.size (.cells #[.string ⟨#[]⟩, .bool false, .bool false, .slice none 0 0, .int .i64 0, .string ⟨#[]⟩, .int .i64 0, .slice none 0 0, .slice none 0 0] 39)
                  obtain ⟨w7, hw7⟩ : ∃ y, y = w5.alloc (.cells #[.string ⟨#[]⟩, .bool false, .bool false, .slice none 0 0, .int .i64 0, .string ⟨#[]⟩, .int .i64 0, .slice none 0 0, .slice none 0 0] 39) := ⟨_, rfl⟩
                  rw [<- hw7] at hB7 ⊢)
               | (obtain ⟨w7, hw7, _, hB7⟩ := set9_blk hk (Nat.le_refl _) HBz.out (.string ⟨#[]⟩) (.bool false) (.bool false) (.slice none 0 0) (.int .i64 0) (.string ⟨#[]⟩) (.int .i64 0) (.slice none 0 0) (.slice none 0 0)
                  rw [<- hw7])
              have HB7 := hide hB7; clear hB7 hw7; go_wp2_with fail; go_ret; exact ⟨by rw [HF.out]; rfl, HBw.out.trans (HB7.out.mono HBw.out.size)⟩
           | some o' =>
             obtain ⟨hne0, hop⟩ := HMnm.out o' rfl; have hne1 : (⟨o'.1.toArray⟩ : ByteArray) ≠ ⟨#[]⟩ := fun h => hne0 (by have := congrArg (fun b : ByteArray => b.data.toList) h; simpa using this)
             have hne2 := ba_ne hne1; have HLk2 : Hid (lk = if (o'.2.stat || !Ly.alikeB o'.2 m) = true then 8 else 0) := hide HLk.out
             clear HLk HMnm hne0
             go_region_held3 (fun wz => wz.cell? ⟨w.heap.size, 0, none⟩ = some (.string NB) /\ wz.cell? ⟨g, o + j * 6 + 5, none⟩ = some (.slice (some ⟨g2, o2, none⟩) np mc') /\ wz.cell? ⟨g2, o2 + i * 9, none⟩ = some (.string ⟨m.name.toArray⟩)) (first | with_reducible exact HS.out _ HBz.out | with_reducible exact HS.out _ (HBd.out _) | with_reducible exact HS.out _ (HBz.out.alloc HBz.out.size _) | with_reducible exact HS.out _ (chain9_below (Nat.le_refl _) HBz.out _ _ _ _ _ _ _ _ _))
              ((go_at_call 48
                with_reducible refine (HMc.out _ ?hbw).mono ?_
                case hbw => exact HBw.out.trans ((by first | with_reducible exact HBz.out | with_reducible exact HBd.out _ : Below wr.heap.size wr _).mono HBw.out.size)
                rintro e w5 ⟨⟨zs, rfl, hz1, hz2⟩, hb5⟩; have HBz := hide ((by first | with_reducible exact HBz.out.trans (hb5.mono HBz.out.size) | with_reducible exact (HBd.out _).trans (hb5.mono (HBd.out _).size) : Below wr.heap.size wr w5))
                have ho := hz1 o' rfl; have HO := hide ho; obtain ⟨_, _, _, rfl, y1, y2, y3, _⟩ := ho; obtain ⟨tp, dp, rfl⟩ := y1.shape; obtain ⟨tc, dc, rfl⟩ := y2.shape; obtain ⟨tk, dk, rfl⟩ := y3.shape
                first
                 | (have hk := (hb5.block wr.heap.size (by show _ < (wr.heap.push _).size; simp)).trans (heap_alloc_new wr (.cells #[.string ⟨#[]⟩, .bool false, .bool false, .slice none 0 0, .int .i64 0, .string ⟨#[]⟩, .int .i64 0, .slice none 0 0, .slice none 0 0] 39))
                    have k0 := cell_box hk 0; have z0 : w5.frozen? ⟨wr.heap.size, 0, none⟩ = false := Ow.fzl_blk hk 0; have k1 := cell_box hk 1; have z1 : w5.frozen? ⟨wr.heap.size, 1, none⟩ = false := Ow.fzl_blk hk 1; have k2 := cell_box hk 2; have z2 : w5.frozen? ⟨wr.heap.size, 2, none⟩ = false := Ow.fzl_blk hk 2; have k3 := cell_box hk 3; have z3 : w5.frozen? ⟨wr.heap.size, 3, none⟩ = false := Ow.fzl_blk hk 3; have k4 := cell_box hk 4; have z4 : w5.frozen? ⟨wr.heap.size, 4, none⟩ = false := Ow.fzl_blk hk 4; have k5 := cell_box hk 5; have z5 : w5.frozen? ⟨wr.heap.size, 5, none⟩ = false := Ow.fzl_blk hk 5; have k6 := cell_box hk 6; have z6 : w5.frozen? ⟨wr.heap.size, 6, none⟩ = false := Ow.fzl_blk hk 6; have k7 := cell_box hk 7; have z7 : w5.frozen? ⟨wr.heap.size, 7, none⟩ = false := Ow.fzl_blk hk 7; have k8 := cell_box hk 8; have z8 : w5.frozen? ⟨wr.heap.size, 8, none⟩ = false := Ow.fzl_blk hk 8)
                 | skip
                clear hb5 hz1 hz2 y1 y2 y3
                simp only [mthXL, Option.map_some, Option.getD_some] at HO ⊢))
             all_goals
              clear HS
              first
               | (have hM7 := heap_alloc_new w5 (.cells #[.string ⟨o'.2.name.toArray⟩, .bool o'.2.stat, .bool o'.2.abst, .slice tp o'.2.params.length dp, .int .i64 o'.2.ret.kind, .string ⟨o'.2.ret.name.toArray⟩, .int .i64 o'.2.locals, .slice tc o'.2.code.length dc, .slice tk o'.2.catches.length dk] 39)
                  have hB7 := HBz.out.alloc HBz.out.size (.cells #[.string ⟨o'.2.name.toArray⟩, .bool o'.2.stat, .bool o'.2.abst, .slice tp o'.2.params.length dp, .int .i64 o'.2.ret.kind, .string ⟨o'.2.ret.name.toArray⟩, .int .i64 o'.2.locals, .slice tc o'.2.code.length dc, .slice tk o'.2.catches.length dk] 39); have hBa := (Below.refl w5.heap.size w5).alloc (Nat.le_refl _) (.cells #[.string ⟨o'.2.name.toArray⟩, .bool o'.2.stat, .bool o'.2.abst, .slice tp o'.2.params.length dp, .int .i64 o'.2.ret.kind, .string ⟨o'.2.ret.name.toArray⟩, .int .i64 o'.2.locals, .slice tc o'.2.code.length dc, .slice tk o'.2.catches.length dk] 39); obtain ⟨w7, hw7⟩ : ∃ y, y = w5.alloc (.cells #[.string ⟨o'.2.name.toArray⟩, .bool o'.2.stat, .bool o'.2.abst, .slice tp o'.2.params.length dp, .int .i64 o'.2.ret.kind, .string ⟨o'.2.ret.name.toArray⟩, .int .i64 o'.2.locals, .slice tc o'.2.code.length dc, .slice tk o'.2.catches.length dk] 39) := ⟨_, rfl⟩; obtain ⟨bk, hbk⟩ : ∃ y, y = w5.heap.size := ⟨_, rfl⟩; have hO7 := HO.out.x.on hBa; rw [<- hw7] at hM7 hB7 hO7 ⊢
                  rw [<- hbk] at hM7 ⊢)
               | (obtain ⟨w7, hw7, hM7, hB7⟩ := set9_blk hk (Nat.le_refl _) HBz.out (.string ⟨o'.2.name.toArray⟩) (.bool o'.2.stat) (.bool o'.2.abst) (.slice tp o'.2.params.length dp) (.int .i64 o'.2.ret.kind) (.string ⟨o'.2.ret.name.toArray⟩) (.int .i64 o'.2.locals) (.slice tc o'.2.code.length dc) (.slice tk o'.2.catches.length dk)
                  have hO7 := (HO.out.kx (kx9 ⟨_, _, hk⟩ (.string ⟨o'.2.name.toArray⟩) (.bool o'.2.stat) (.bool o'.2.abst) (.slice tp o'.2.params.length dp) (.int .i64 o'.2.ret.kind) (.string ⟨o'.2.ret.name.toArray⟩) (.int .i64 o'.2.locals) (.slice tc o'.2.code.length dc) (.slice tk o'.2.catches.length dk)) (by decide) (by decide) (by decide)).x
                  obtain ⟨bk, hbk⟩ : ∃ y, y = wr.heap.size := ⟨_, rfl⟩; rw [<- hw7] at hO7 ⊢
                  rw [<- hbk] at hM7 ⊢)
              have HM7 := hide hM7; have HB7 := hide hB7; have HO7 := hide hO7; clear hM7 hB7 hO7 hw7 hbk HO; have HBw7 := hide (HBw.out.trans (HB7.out.mono HBw.out.size)); have HAl := hide (fun wx (hb : Below w7.heap.size w7 wx) => ralike_any o'.2 m _ _ wx (HO7.out.on hb) (HMf.out.on (HBw7.out.trans (hb.mono HBw7.out.size))) (by omega) (by omega))
              obtain ⟨al, hal⟩ : ∃ y, y = Ly.alikeB o'.2 m := ⟨_, rfl⟩; rw [<- hal] at HAl HLk2; clear hal HO7 HMf; generalize (⟨o'.1.toArray⟩ : ByteArray) = EN at *
              obtain ⟨os, hos⟩ : ∃ y, y = o'.2.stat := ⟨_, rfl⟩; rw [<- hos] at HAl HLk2 HM7 ⊢; clear hos; generalize (⟨o'.2.name.toArray⟩ : ByteArray) = ON at *
              generalize o'.2.abst = oa at *
              generalize o'.2.params.length = o1 at *
              generalize (o'.2.ret.kind : Int) = ok' at *
              generalize (⟨o'.2.ret.name.toArray⟩ : ByteArray) = OR at *
              generalize (o'.2.locals : Int) = ol at *
              generalize o'.2.code.length = o2' at *
              generalize o'.2.catches.length = o3' at *
              have HS := hide (fun wz (hb : Below w7.heap.size w7 wz) => show wz.cell? ⟨g, o + j * 6 + 5, none⟩ = some (.slice (some ⟨g2, o2, none⟩) np mc') /\ wz.cell? ⟨bk, 0, none⟩ = some (.string ON) /\ wz.cell? ⟨bk, 1, none⟩ = some (.bool os) /\ wz.cell? ⟨bk, 2, none⟩ = some (.bool oa) /\ wz.cell? ⟨bk, 3, none⟩ = some (.slice tp o1 dp) /\ wz.cell? ⟨bk, 4, none⟩ = some (.int .i64 ok') /\ wz.cell? ⟨bk, 5, none⟩ = some (.string OR) /\ wz.cell? ⟨bk, 6, none⟩ = some (.int .i64 ol) /\ wz.cell? ⟨bk, 7, none⟩ = some (.slice tc o2' dc) /\ wz.cell? ⟨bk, 8, none⟩ = some (.slice tk o3' dk) /\ wz.cell? ⟨g2, o2 + i * 9, none⟩ = some (.string ⟨m.name.toArray⟩) /\ wz.cell? ⟨g2, o2 + i * 9 + 1, none⟩ = some (.bool m.stat) /\ wz.cell? ⟨g2, o2 + i * 9 + 2, none⟩ = some (.bool m.abst) /\ wz.cell? ⟨g2, o2 + i * 9 + 3, none⟩ = some (.slice ap m.params.length cp) /\ wz.cell? ⟨g2, o2 + i * 9 + 4, none⟩ = some (.int .i64 m.ret.kind) /\ wz.cell? ⟨g2, o2 + i * 9 + 5, none⟩ = some (.string ⟨m.ret.name.toArray⟩) /\ wz.cell? ⟨g2, o2 + i * 9 + 6, none⟩ = some (.int .i64 m.locals) /\ wz.cell? ⟨g2, o2 + i * 9 + 7, none⟩ = some (.slice ac m.code.length cc) /\ wz.cell? ⟨g2, o2 + i * 9 + 8, none⟩ = some (.slice ak m.catches.length ck) from by
               have hy := (hb.block _ (Ow.lt_of_blk HM7.out)).trans HM7.out; have h5 := HCc.out wz (HBw7.out.trans (hb.mono HBw7.out.size)) 5 _ rfl; have hr := fun jj u (e : [.string ⟨m.name.toArray⟩, .bool m.stat, .bool m.abst, .slice ap m.params.length cp, .int .i64 m.ret.kind, .string ⟨m.ret.name.toArray⟩, .int .i64 m.locals, .slice ac m.code.length cc, .slice ak m.catches.length ck][jj]? = some u) => HCk.out wz (HBw7.out.trans (hb.mono HBw7.out.size)) jj u e; refine ⟨h5, cell_box hy 0, cell_box hy 1, cell_box hy 2, cell_box hy 3, cell_box hy 4, cell_box hy 5, cell_box hy 6, cell_box hy 7, cell_box hy 8, ?_, hr 1 _ rfl, hr 2 _ rfl, hr 3 _ rfl, hr 4 _ rfl, hr 5 _ rfl, hr 6 _ rfl, hr 7 _ rfl, hr 8 _ rfl⟩; have h0 := hr 0 _ rfl; rw [Nat.add_zero] at h0
               exact h0)
              have HBy : Hid (Below w7.heap.size w7 w7.drew) := hide (Below.drew (Below.refl _ _)); have HB17 : Hid (Below w1.heap.size w1 w7) := hide (HB.out.trans (HB7.out.mono HB.out.size)); clear HCk HM7 HMc HX2; go_wp2_with fail; cases os with
              | true =>
                have h9 : lk = 8 := HLk2.out; have HF : Hid (r = 8) := hide (by rw [HRs.out (by rw [h9]; decide), h9])
                obtain ⟨q0, q1, q2, q3, q4, q5, q6, q7, q8, q9, q10, q11, q12, q13, q14, q15, q16, q17, q18⟩ := HS.out w7 (Below.refl _ _); clear h9
                go_quiet (fail)
                clear HRs HSt2 HTk2 HTk3 HAl HS; go_wp2_with fail; go_ret; exact ⟨by rw [HF.out]; rfl, HB1.out.trans ((by first | exact HB17.out | exact below_drewN HB17.out _ : Below w1.heap.size w1 _).mono HB1.out.size)⟩
              | false =>
                have HLk3 : Hid (lk = if (!al) = true then 8 else 0) := hide HLk2.out
                clear HLk2
                go_region_held3 (fun wz => wz.cell? ⟨g, o + j * 6 + 5, none⟩ = some (.slice (some ⟨g2, o2, none⟩) np mc') /\ wz.cell? ⟨bk, 0, none⟩ = some (.string ON) /\ wz.cell? ⟨bk, 1, none⟩ = some (.bool false) /\ wz.cell? ⟨bk, 2, none⟩ = some (.bool oa) /\ wz.cell? ⟨bk, 3, none⟩ = some (.slice tp o1 dp) /\ wz.cell? ⟨bk, 4, none⟩ = some (.int .i64 ok') /\ wz.cell? ⟨bk, 5, none⟩ = some (.string OR) /\ wz.cell? ⟨bk, 6, none⟩ = some (.int .i64 ol) /\ wz.cell? ⟨bk, 7, none⟩ = some (.slice tc o2' dc) /\ wz.cell? ⟨bk, 8, none⟩ = some (.slice tk o3' dk) /\ wz.cell? ⟨g2, o2 + i * 9, none⟩ = some (.string ⟨m.name.toArray⟩) /\ wz.cell? ⟨g2, o2 + i * 9 + 1, none⟩ = some (.bool m.stat) /\ wz.cell? ⟨g2, o2 + i * 9 + 2, none⟩ = some (.bool m.abst) /\ wz.cell? ⟨g2, o2 + i * 9 + 3, none⟩ = some (.slice ap m.params.length cp) /\ wz.cell? ⟨g2, o2 + i * 9 + 4, none⟩ = some (.int .i64 m.ret.kind) /\ wz.cell? ⟨g2, o2 + i * 9 + 5, none⟩ = some (.string ⟨m.ret.name.toArray⟩) /\ wz.cell? ⟨g2, o2 + i * 9 + 6, none⟩ = some (.int .i64 m.locals) /\ wz.cell? ⟨g2, o2 + i * 9 + 7, none⟩ = some (.slice ac m.code.length cc) /\ wz.cell? ⟨g2, o2 + i * 9 + 8, none⟩ = some (.slice ak m.catches.length ck)) (exact HS.out _ HBy.out)
                 (first
                   | (go_at_call 65
                      with_reducible refine (HAl.out _ HBy.out).mono ?_
                      rintro e w8 ⟨rfl, hb8⟩; have HBy := hide (HBy.out.trans (hb8.mono HBy.out.size))
                      clear hb8)
                   | fail)
                all_goals
                 have HB8 := hide (HB17.out.trans (HBy.out.mono HB17.out.size)); cases al with
                 | true =>
                   have HT8 : Hid (Ly.firstL (Ly.lackF N k) (d.methods.take (i + 1)) = 0) := hide (HTk3.out.trans HLk3.out); clear HRs HSt2 HTk3 HAl HS; go_wp2_with fail
                   go_roundw
                   case rel => exact ⟨i + 1, by omega, by go_num, HB8, HT8⟩
                   case measure => simp [intOf]; omega
                 | false =>
                   have h9 : lk = 8 := HLk3.out; have HF : Hid (r = 8) := hide (by rw [HRs.out (by rw [h9]; decide), h9])
                   clear HRs HSt2 HTk2 HTk3 HAl HS h9; go_wp2_with fail; go_ret; exact ⟨by rw [HF.out]; rfl, HB1.out.trans (HB8.out.mono HB1.out.size)⟩
         · have HT5 : Hid (Ly.firstL (Ly.lackF N k) d.methods = 0) := hide (by
            have h1 := HZ.out; rw [List.take_of_length_le (by rw [<- HNp.out]; omega)] at h1
            exact h1)
           have HT6 := hide (HTk2.out.trans HT5.out); have hnl : ¬ ((i : Int) < (np : Int)) := by omega
           clear HZ HTk2; go_wp2_with fail
           go_roundw
           case rel => exact ⟨j + 1, by omega, by go_num, HB, HT6⟩
           case measure => simp [intOf]; omega
    · have hif' : d.iface = false := by simpa using hif
      rw [hif'] at q1; have HT2 := hide (HTake.out.trans (if_neg (fun h => hif (hab.2 h).1))); clear HTake HStop hab HHn hd hnp; go_wp2_with fail
      go_roundw
      case rel => exact ⟨j + 1, by omega, by go_num, HB, HT2⟩
      case measure => simp [intOf]; omega
  · have HF : Hid (r = 0) := hide (by
     have h1 := HZ.out; rw [List.take_of_length_le (by rw [List.length_range]; omega), <- HR.out] at h1
     exact h1)
    have hnl : ¬ ((j : Int) < (n : Int)) := by omega
    clear HZ; go_wp2_with fail; go_ret; exact ⟨by rw [HF.out]; rfl, HBw.out⟩
end Go.Proofs.YtjlappamkfjlkaaGreatDoor

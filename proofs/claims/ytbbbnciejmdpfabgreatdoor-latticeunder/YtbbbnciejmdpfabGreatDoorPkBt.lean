/- What the laws of this seat lean on: 4 texts. -/
import Derived.Test.YtbbbnciejmdpfabGreatDoorPkBr
import Derived.Test.YtbbbnciejmdpfabGreatDoorPkBs
import Derived.Test.YtbbbnciejmdpfabGreatDoorPkBm
import Derived.Test.YtbbbnciejmdpfabGreatDoorPkBf
import Derived.Test.YtbbbnciejmdpfabGreatDoorPkBi
set_option maxRecDepth 100000
set_option maxHeartbeats 64000000
set_option linter.unusedVariables false
set_option linter.unusedSimpArgs false
namespace Go.Proofs.YtbbbnciejmdpfabGreatDoor
open Go.RowKit
namespace Ly
open Pp Hr
theorem firstL_none {α : Type} {f : α -> Int} : ∀ {l : List α}, (∀ x ∈ l, f x = 0) -> firstL f l = 0
 | [], _ => rfl
 | a :: l, h => by
   unfold firstL; rw [if_pos (h a (by simp))]
   exact firstL_none fun x hx => h x (List.mem_cons_of_mem _ hx)
theorem first8 {f : Nat -> Int} (m : Nat) (h : ∀ k, k < 8 -> f k = 0) : firstL f ((List.range m).take 8) = 0 := by
 refine firstL_none fun x hx => h x ?_; obtain ⟨i, h1, h2⟩ := List.getElem_of_mem hx; rw [List.length_take, List.length_range] at h1; rw [List.getElem_take, List.getElem_range] at h2; omega
theorem super_there {cs : List XCls} {up : List (List Nat)} (he : errL cs = 0) (hg : growL (allL cs) (allL cs) = some up) {k : Nat} (hk : k < (allL cs).length) (h8 : 8 <= k) (hi : (clP (allL cs) k).iface = false) : ∃ q, superL (clP (allL cs) k) = some (superS (clP (allL cs) k)) /\ placeL (allL cs) (superS (clP (allL cs) k)) = some q := by
 have ho := (err_zero he).2.1
 have hn : (clP (allL cs) k).name ≠ objN := fun h => by
  have h1 := ho k _ (at_of hk); rw [h, place_top] at h1; injection h1 with h1; omega
 obtain ⟨s, hs⟩ : ∃ s, superL (clP (allL cs) k) = some s := by
  unfold superL; rw [if_neg (by rw [hi]; rintro (h | h); exact absurd h (by decide); exact hn h)]
  split
  · exact ⟨_, rfl⟩
  · exact ⟨_, rfl⟩
 have e : superS (clP (allL cs) k) = s := by unfold superS; rw [hs]; rfl
 obtain ⟨q, h1, _⟩ := super_at he hg hk hs; rw [e]; exact ⟨q, hs, h1⟩
end Ly
theorem RLayout_any (cs : List Pp.XCls) (v : Value) (w : World) (h : ProgX w v cs) (hl : Pp.Light cs) :
 Calls Tryz.prog 5 #[.agg #[v]] w fun e w' => e = .returned (.int .i64 (Ly.layE cs)) /\ Below w.heap.size w w' := by
 have HHi := hide (fun wx (hb : Below w.heap.size w wx) => RHier_any cs v wx (h.on hb) hl); have HAl := hide (fun wx (hb : Below w.heap.size w wx) => RAll_any cs v wx (h.on hb) hl); have hlen : (Hr.allL cs).length <= 22 := by show (Hr.base ++ cs).length <= 22; rw [List.length_append]; show 8 + cs.length <= 22; have := hl.1; omega
 have hlen8 : 8 <= (Hr.allL cs).length := by show 8 <= (Hr.base ++ cs).length; rw [List.length_append]; show 8 <= 8 + cs.length; omega
 obtain ⟨pa, pc, rfl, _⟩ := h.1.len; generalize cs.length = n at *
 obtain ⟨r, hr⟩ : ∃ r, r = Ly.layE cs := ⟨_, rfl⟩; have HR := hide hr; rw [<- hr]; clear h hr; have HX := hide (heap_alloc_new w (.cells #[.slice pa n pc] 24)); have HB0 := hide ((Below.refl w.heap.size w).alloc (Nat.le_refl _) (.cells #[.slice pa n pc] 24)); go_enter Tryz.func5, Tryz.ntmps5; go_wp2_with fail; generalize w.alloc (.cells #[.slice pa n pc] 24) = w0 at *
 refine (HHi.out w0 HB0.out).mono ?_; rintro e ws ⟨rfl, hbs⟩; have HBs := hide (HB0.out.trans (hbs.mono HB0.out.size)); have c0 := cell_box ((hbs.block _ (Ow.lt_of_blk HX.out)).trans HX.out) 0; clear hbs HB0 HX HHi; obtain ⟨er, her⟩ : ∃ y, y = Hr.errL cs := ⟨_, rfl⟩; rw [<- her]; by_cases he0 : er = 0
 · subst he0
   have he := her.symm; obtain ⟨hpg, _, up, hg, _⟩ := Hr.err_zero he
   have hR : r = Ly.checkF (Ly.pnet (Hr.allL cs) up) (Hr.allL cs) (List.range (Hr.allL cs).length) := by
    rw [HR.out]; unfold Ly.layE; rw [if_pos he, hg]
   clear her HR; go_wp2_with fail; refine (HAl.out ws HBs.out).mono ?_; rintro e w1 ⟨vl, rfl, hol, hb1⟩; have HW := hide (HBs.out.trans (hb1.mono HBs.out.size)); have HRow : Hid (∀ wy, Below w1.heap.size w1 wy -> RowX wy 6 (ClsX wy) vl (Hr.allL cs)) := hide fun wy hb => (hol.row Ow.shp_cls fun _ _ h => h.x).on hb fun _ _ h => h.on hb; obtain ⟨la, lc, rfl⟩ := hol.shape; have hl0 : (Hr.allL cs)[0]? = some (Hr.plain Hr.objN []) := rfl; obtain ⟨g, o, rfl, -⟩ := Hr.row_at (HRow.out w1 (Below.refl _ _)) hl0; clear hb1 hol HAl HBs c0 hl0; obtain ⟨E1, hE1⟩ : ∃ f : Nat -> Int, f = fun b => Ly.memF (Hr.allL cs) ((Ly.pnet (Hr.allL cs) up).cl b) := ⟨_, rfl⟩; obtain ⟨E2, hE2⟩ : ∃ f : Nat -> Int, f = Ly.supF (Ly.pnet (Hr.allL cs) up) := ⟨_, rfl⟩; obtain ⟨E3, hE3⟩ : ∃ f : Nat -> Int, f = Ly.ifcF (Ly.pnet (Hr.allL cs) up) (List.range (Hr.allL cs).length) := ⟨_, rfl⟩; have HZ1 := hide (Ly.first8 (f := E1) (Hr.allL cs).length fun k hk => by rw [hE1]; exact Ly.base_mem _ hk)
   have HZ2 := hide (Ly.first8 (f := E2) (Hr.allL cs).length fun k hk => by rw [hE2]; exact Ly.base_sup hg hk)
   have HZ3 := hide (Ly.first8 (f := E3) (Hr.allL cs).length fun k hk => by rw [hE3]; exact Ly.base_ifc he hg hk)
   unfold Ly.checkF at hR; rw [<- hE1, <- hE2, <- hE3] at hR; have HIfc : Hid (∀ j, j < (Hr.allL cs).length -> (Ly.clP (Hr.allL cs) j).iface = true -> E2 j = 0 /\ E3 j = 0) := hide fun j hj hi => ⟨by rw [hE2]; exact Ly.sup_iface he hg hj hi, by rw [hE3]; unfold Ly.ifcF; exact if_pos hi⟩
   have HC1 : Hid (∀ j, j < (Hr.allL cs).length -> ∀ wx, Below w1.heap.size w1 wx -> ∀ ys, ClsX wx (Ly.clP (Hr.allL cs) j) ys -> Calls Tryz.prog 14 #[.slice (some ⟨g, o, none⟩) (Hr.allL cs).length lc, .agg ys.toArray] wx fun e w' => e = .returned (.int .i64 (E1 j)) /\ Below wx.heap.size wx w') := hide fun j hj wx hb ys hy => by
    have hf := Ly.all_facts hpg (Ly.at_of hj); have h1 := membersA_any (Hr.allL cs) _ _ ys wx (HRow.out wx hb) (by omega) hy (by omega) (by omega) (fun m hm => by have := Ly.all_pars hpg (Ly.at_of hj) m hm; omega)
    rw [Ly.memG_eq _ (Ly.all_tyd hpg (Ly.at_of hj))] at h1; rw [hE1]; exact h1
   have HC2 : Hid (∀ j, j < (Hr.allL cs).length -> 8 <= j -> ∀ wx, Below w1.heap.size w1 wx -> ∀ ys, ClsX wx (Ly.clP (Hr.allL cs) j) ys -> (Ly.clP (Hr.allL cs) j).iface = false -> Calls Tryz.prog 15 #[.slice (some ⟨g, o, none⟩) (Hr.allL cs).length lc, .agg ys.toArray] wx fun e w' => e = .returned (.int .i64 (E2 j)) /\ Below wx.heap.size wx w') := hide fun j hj h8 wx hb ys hy hi => by
    have hf := Ly.all_facts hpg (Ly.at_of hj); obtain ⟨q, hs, hq⟩ := Ly.super_there he hg hj h8 hi; have h1 := inherits_any he hg hl _ _ ys q hq wx (HRow.out wx hb) hy (by omega) (by omega) (fun m hm => by have := Ly.all_pars hpg (Ly.at_of hj) m hm; omega)
    rw [Ly.inh_sup he hg hj hs hq] at h1; rw [hE2]; exact h1
   have HC3 : Hid (∀ j, j < (Hr.allL cs).length -> ∀ wx, Below w1.heap.size w1 wx -> ∀ ys, ClsX wx (Ly.clP (Hr.allL cs) j) ys -> (Ly.clP (Hr.allL cs) j).iface = false -> Calls Tryz.prog 16 #[.slice (some ⟨g, o, none⟩) (Hr.allL cs).length lc, .agg ys.toArray] wx fun e w' => e = .returned (.int .i64 (E3 j)) /\ Below wx.heap.size wx w') := hide fun j hj wx hb ys hy hi => by
    have h1 := keeps_any he hg hl _ j hj ys wx (HRow.out wx hb) hy
    have e : E3 j = Ly.firstL (Ly.faceF (Ly.pnet (Hr.allL cs) up) j) (List.range (Hr.allL cs).length) := by
     rw [hE3]; unfold Ly.ifcF; exact if_neg (by show ¬ (Ly.clP (Hr.allL cs) j).iface = true; rw [hi]; decide)
    rw [e]; exact h1
   obtain ⟨L, hL⟩ : ∃ L, L = Hr.allL cs := ⟨_, rfl⟩; rw [<- hL] at HRow HC1 HC2 HC3 HZ1 HZ2 HZ3 HIfc hR hlen hlen8 ⊢; clear hE1 hE2 hE3 he hg hpg hl hL; obtain ⟨m, hm⟩ : ∃ q, q = L.length := ⟨_, rfl⟩; have HM := hide hm; rw [<- hm] at HRow HC1 HC2 HC3 HZ1 HZ2 HZ3 HIfc hR hlen hlen8 ⊢; clear hm; have HM8 := hide hlen8; have HR1 : Hid (Ly.firstL E1 (List.range m) ≠ 0 -> r = Ly.firstL E1 (List.range m)) := hide fun h => by rw [hR, if_neg h]
   have HR2 : Hid (Ly.firstL E1 (List.range m) = 0 -> Ly.firstL E2 (List.range m) ≠ 0 -> r = Ly.firstL E2 (List.range m)) := hide fun h h2 => by rw [hR, if_pos h, if_neg h2]
   have HR3 : Hid (Ly.firstL E1 (List.range m) = 0 -> Ly.firstL E2 (List.range m) = 0 -> Ly.firstL E3 (List.range m) ≠ 0 -> r = Ly.firstL E3 (List.range m)) := hide fun h h2 h3 => by rw [hR, if_pos h, if_pos h2]
   have HR0 : Hid (Ly.firstL E1 (List.range m) = 0 -> Ly.firstL E2 (List.range m) = 0 -> Ly.firstL E3 (List.range m) = 0 -> r = 0) := hide fun h h2 h3 => by rw [hR, if_pos h, if_pos h2, h3]
   clear hR; have hmm : (m : Int) <= 22 := by omega
   go_wp2_with fail; refine (Base_any _).mono ?_; rintro e wb ⟨vb, rfl, hob, hbb⟩; obtain ⟨ba, bc, rfl⟩ := hob.shape; have HB0 := hide ((Below.refl _ _ : Below w1.heap.size w1 _).trans (hbb.mono (Nat.le_refl _))); clear hob hbb; rw [show Hr.base.length = 8 from rfl]
   go_wp2_with fail
   go_loopw [5] (fun i wr => ∃ j : Nat, 8 <= j /\ j <= m /\ i = .int .i64 j /\ Hid (Below w1.heap.size w1 wr) /\ Hid (Ly.firstL E1 ((List.range m).take j) = 0)) (fun i _ => m - (intOf i).toNat)
   case atStart => exact ⟨8, Nat.le_refl _, HM8.out, rfl, HB0, HZ1⟩
   case round =>
    clear HB0; obtain ⟨j, h8, hj, rfl, HQ, HZ⟩ := hrel; by_cases hjl : j < m
    · have hx := Ly.at_of (l := L) (k := j) (by rw [<- HM.out]; exact hjl)
      have hxr : (List.range m)[j]? = some j := by simp [hjl]
      have HSt := hide (fun hf => Ly.firstL_stop (f := E1) HZ.out hxr hf); have HTk := hide (Ly.firstL_take (f := E1) HZ.out hxr); have hcall := fun wx hb ys h => HC1.out j hjl wx hb ys h; obtain ⟨d, hd⟩ : ∃ y, y = Ly.clP L j := ⟨_, rfl⟩; rw [<- hd] at hx; rw [<- hd] at hcall; have HCall := hide hcall; obtain ⟨g', o', e3, ys, wf, hc⟩ := Ow.row_at' (HRow.out wr HQ.out) hx; injection e3 with e3; injection e3 with e4 e5; subst e4; subst e5; have HCc := hide hc; have hwf := wf; obtain ⟨ia', ic', fa', fc', ma', mc', rfl, _, _, _⟩ := cls_open wf; have q0 := HCc.out wr (Below.refl _ _) 0 _ rfl; have q1 := HCc.out wr (Below.refl _ _) 1 _ rfl; have q2 := HCc.out wr (Below.refl _ _) 2 _ rfl; have q3 := HCc.out wr (Below.refl _ _) 3 _ rfl; have q4 := HCc.out wr (Below.refl _ _) 4 _ rfl; have q5 := HCc.out wr (Below.refl _ _) 5 _ rfl; rw [Nat.add_zero] at q0; have HK := hide (HCall.out wr HQ.out _ hwf); obtain ⟨lf, hlf⟩ : ∃ q, q = E1 j := ⟨_, rfl⟩; rw [<- hlf] at HSt HTk HK; have HLf2 := hide hlf; clear hx hxr hc wf hcall HCall HZ hlf hwf HCc hd; have hjl' : (j : Int) < (m : Int) := by omega
      go_wp2_with fail; refine HK.out.mono ?_; rintro e w5 ⟨rfl, hb5⟩; have HQ5 := hide (HQ.out.trans (hb5.mono HQ.out.size)); clear HK hb5; by_cases hl0 : lf = 0
      · subst hl0
        have HT5 := hide HTk.out; clear HSt HTk; go_wp2_with fail
        go_roundw
        case rel => first | exact ⟨j + 1, by omega, by omega, by go_num, HQ5, HT5⟩ | ((repeat apply Exists.intro); exact ⟨⟨j + 1, by omega, by omega, by go_num, HQ5, HT5⟩, rfl⟩)
        case measure => simp [intOf]; omega
      · have hl0' : (lf != 0) = true := by simpa using hl0
        have HRes : Hid (r = lf) := hide (by
         have h1 := HSt.out hl0; have h2 := HR1.out (by rw [h1]; exact hl0)
         rw [h2, h1])
        clear HSt HTk; go_wp2_with fail; go_ret; exact ⟨by rw [HRes.out]; rfl, HW.out.trans (HQ5.out.mono HW.out.size)⟩
    · have HP1 : Hid (Ly.firstL E1 (List.range m) = 0) := hide (by
       have h1 := HZ.out; rw [List.take_of_length_le (by rw [List.length_range]; omega)] at h1
       exact h1)
      have hnl : ¬ ((j : Int) < (m : Int)) := by omega
      clear HZ; go_wp2_with fail; refine (Base_any _).mono ?_; rintro e wb ⟨vb, rfl, hob, hbb⟩; obtain ⟨ba, bc, rfl⟩ := hob.shape; have HB1 := hide ((HQ.out : Below w1.heap.size w1 _).trans (hbb.mono (HQ.out.size))); clear hob hbb HQ; rw [show Hr.base.length = 8 from rfl]
      go_wp2_with fail
      go_loopw [7] (fun i wr => ∃ j : Nat, 8 <= j /\ j <= m /\ i = .int .i64 j /\ Hid (Below w1.heap.size w1 wr) /\ Hid (Ly.firstL E2 ((List.range m).take j) = 0)) (fun i _ => m - (intOf i).toNat)
      case atStart => exact ⟨8, Nat.le_refl _, HM8.out, rfl, HB1, HZ2⟩
      case round =>
       clear HB1; obtain ⟨j, h8, hj, rfl, HQ, HZ⟩ := hrel; by_cases hjl : j < m
       · have hx := Ly.at_of (l := L) (k := j) (by rw [<- HM.out]; exact hjl)
         have hxr : (List.range m)[j]? = some j := by simp [hjl]
         have HSt := hide (fun hf => Ly.firstL_stop (f := E2) HZ.out hxr hf); have HTk := hide (Ly.firstL_take (f := E2) HZ.out hxr); have hcall := fun wx hb ys h => HC2.out j hjl h8 wx hb ys h; obtain ⟨d, hd⟩ : ∃ y, y = Ly.clP L j := ⟨_, rfl⟩; rw [<- hd] at hx; have HIf := hide (HIfc.out j hjl); rw [<- hd] at HIf; rw [<- hd] at hcall; have HCall := hide hcall; obtain ⟨g', o', e3, ys, wf, hc⟩ := Ow.row_at' (HRow.out wr HQ.out) hx; injection e3 with e3; injection e3 with e4 e5; subst e4; subst e5; have HCc := hide hc; have hwf := wf; obtain ⟨ia', ic', fa', fc', ma', mc', rfl, _, _, _⟩ := cls_open wf; have q0 := HCc.out wr (Below.refl _ _) 0 _ rfl; have q1 := HCc.out wr (Below.refl _ _) 1 _ rfl; have q2 := HCc.out wr (Below.refl _ _) 2 _ rfl; have q3 := HCc.out wr (Below.refl _ _) 3 _ rfl; have q4 := HCc.out wr (Below.refl _ _) 4 _ rfl; have q5 := HCc.out wr (Below.refl _ _) 5 _ rfl; rw [Nat.add_zero] at q0; have HK := hide (HCall.out wr HQ.out _ hwf); obtain ⟨lf, hlf⟩ : ∃ q, q = E2 j := ⟨_, rfl⟩; rw [<- hlf] at HSt HTk HK; have HLf2 := hide hlf; clear hx hxr hc wf hcall HCall HZ hlf hwf HCc hd; have hjl' : (j : Int) < (m : Int) := by omega
         by_cases hif : d.iface = true
         · rw [hif] at q1
           have HT5 := hide (HTk.out.trans (HLf2.out.trans (HIf.out hif).1)); clear HSt HTk HK HIf; go_wp2_with fail
           go_roundw
           case rel => first | exact ⟨j + 1, by omega, by omega, by go_num, HQ, HT5⟩ | ((repeat apply Exists.intro); exact ⟨⟨j + 1, by omega, by omega, by go_num, HQ, HT5⟩, rfl⟩)
           case measure => simp [intOf]; omega
         · have hif : d.iface = false := by simpa using hif
           have HK2 := hide (HK.out hif); rw [hif] at q1 HK2; go_wp2_with fail; refine HK2.out.mono ?_; rintro e w5 ⟨rfl, hb5⟩; have HQ5 := hide (HQ.out.trans (hb5.mono HQ.out.size)); clear HK hb5; by_cases hl0 : lf = 0
           · subst hl0
             have HT5 := hide HTk.out; clear HSt HTk; go_wp2_with fail
             go_roundw
             case rel => first | exact ⟨j + 1, by omega, by omega, by go_num, HQ5, HT5⟩ | ((repeat apply Exists.intro); exact ⟨⟨j + 1, by omega, by omega, by go_num, HQ5, HT5⟩, rfl⟩)
             case measure => simp [intOf]; omega
           · have hl0' : (lf != 0) = true := by simpa using hl0
             have HRes : Hid (r = lf) := hide (by
              have h1 := HSt.out hl0; have h2 := HR2.out HP1.out (by rw [h1]; exact hl0)
              rw [h2, h1])
             clear HSt HTk; go_wp2_with fail; go_ret; exact ⟨by rw [HRes.out]; rfl, HW.out.trans (HQ5.out.mono HW.out.size)⟩
       · have HP2 : Hid (Ly.firstL E2 (List.range m) = 0) := hide (by
          have h1 := HZ.out; rw [List.take_of_length_le (by rw [List.length_range]; omega)] at h1
          exact h1)
         have hnl : ¬ ((j : Int) < (m : Int)) := by omega
         clear HZ; go_wp2_with fail; refine (Base_any _).mono ?_; rintro e wb ⟨vb, rfl, hob, hbb⟩; obtain ⟨ba, bc, rfl⟩ := hob.shape; have HB2 := hide ((HQ.out : Below w1.heap.size w1 _).trans (hbb.mono (HQ.out.size))); clear hob hbb HQ; rw [show Hr.base.length = 8 from rfl]
         go_wp2_with fail
         go_loopw [9] (fun i wr => ∃ j : Nat, 8 <= j /\ j <= m /\ i = .int .i64 j /\ Hid (Below w1.heap.size w1 wr) /\ Hid (Ly.firstL E3 ((List.range m).take j) = 0)) (fun i _ => m - (intOf i).toNat)
         case atStart => exact ⟨8, Nat.le_refl _, HM8.out, rfl, HB2, HZ3⟩
         case round =>
          clear HB2; obtain ⟨j, h8, hj, rfl, HQ, HZ⟩ := hrel; by_cases hjl : j < m
          · have hx := Ly.at_of (l := L) (k := j) (by rw [<- HM.out]; exact hjl)
            have hxr : (List.range m)[j]? = some j := by simp [hjl]
            have HSt := hide (fun hf => Ly.firstL_stop (f := E3) HZ.out hxr hf); have HTk := hide (Ly.firstL_take (f := E3) HZ.out hxr); have hcall := fun wx hb ys h => HC3.out j hjl wx hb ys h; obtain ⟨d, hd⟩ : ∃ y, y = Ly.clP L j := ⟨_, rfl⟩; rw [<- hd] at hx; have HIf := hide (HIfc.out j hjl); rw [<- hd] at HIf; rw [<- hd] at hcall; have HCall := hide hcall; obtain ⟨g', o', e3, ys, wf, hc⟩ := Ow.row_at' (HRow.out wr HQ.out) hx; injection e3 with e3; injection e3 with e4 e5; subst e4; subst e5; have HCc := hide hc; have hwf := wf; obtain ⟨ia', ic', fa', fc', ma', mc', rfl, _, _, _⟩ := cls_open wf; have q0 := HCc.out wr (Below.refl _ _) 0 _ rfl; have q1 := HCc.out wr (Below.refl _ _) 1 _ rfl; have q2 := HCc.out wr (Below.refl _ _) 2 _ rfl; have q3 := HCc.out wr (Below.refl _ _) 3 _ rfl; have q4 := HCc.out wr (Below.refl _ _) 4 _ rfl; have q5 := HCc.out wr (Below.refl _ _) 5 _ rfl; rw [Nat.add_zero] at q0; have HK := hide (HCall.out wr HQ.out _ hwf); obtain ⟨lf, hlf⟩ : ∃ q, q = E3 j := ⟨_, rfl⟩; rw [<- hlf] at HSt HTk HK; have HLf2 := hide hlf; clear hx hxr hc wf hcall HCall HZ hlf hwf HCc hd; have hjl' : (j : Int) < (m : Int) := by omega
            by_cases hif : d.iface = true
            · rw [hif] at q1
              have HT5 := hide (HTk.out.trans (HLf2.out.trans (HIf.out hif).2)); clear HSt HTk HK HIf; go_wp2_with fail
              go_roundw
              case rel => first | exact ⟨j + 1, by omega, by omega, by go_num, HQ, HT5⟩ | ((repeat apply Exists.intro); exact ⟨⟨j + 1, by omega, by omega, by go_num, HQ, HT5⟩, rfl⟩)
              case measure => simp [intOf]; omega
            · have hif : d.iface = false := by simpa using hif
              have HK2 := hide (HK.out hif); rw [hif] at q1 HK2; go_wp2_with fail; refine HK2.out.mono ?_; rintro e w5 ⟨rfl, hb5⟩; have HQ5 := hide (HQ.out.trans (hb5.mono HQ.out.size)); clear HK hb5; by_cases hl0 : lf = 0
              · subst hl0
                have HT5 := hide HTk.out; clear HSt HTk; go_wp2_with fail
                go_roundw
                case rel => first | exact ⟨j + 1, by omega, by omega, by go_num, HQ5, HT5⟩ | ((repeat apply Exists.intro); exact ⟨⟨j + 1, by omega, by omega, by go_num, HQ5, HT5⟩, rfl⟩)
                case measure => simp [intOf]; omega
              · have hl0' : (lf != 0) = true := by simpa using hl0
                have HRes : Hid (r = lf) := hide (by
                 have h1 := HSt.out hl0; have h2 := HR3.out HP1.out HP2.out (by rw [h1]; exact hl0)
                 rw [h2, h1])
                clear HSt HTk; go_wp2_with fail; go_ret; exact ⟨by rw [HRes.out]; rfl, HW.out.trans (HQ5.out.mono HW.out.size)⟩
          · have HP3 : Hid (Ly.firstL E3 (List.range m) = 0) := hide (by
             have h1 := HZ.out; rw [List.take_of_length_le (by rw [List.length_range]; omega)] at h1
             exact h1)
            have hnl : ¬ ((j : Int) < (m : Int)) := by omega
            clear HZ; go_wp2_with fail; go_ret; exact ⟨by rw [HR0.out HP1.out HP2.out HP3.out]; rfl, HW.out.trans (HQ.out.mono HW.out.size)⟩
 · have hne : (er != 0) = true := by simpa using he0
   have HRe : Hid (r = er) := hide (by rw [HR.out]; unfold Ly.layE; rw [if_neg (by rw [<- her]; exact he0), her])
   clear HR HAl her; go_wp2_with fail; go_ret; exact ⟨by rw [HRe.out]; rfl, HBs.out⟩
namespace Lx
open Pp Hr
def plainK (k : Int) : Bool := k == 2 || (k == 4 || (k == 6 || k == 7))
def rightL (l : List XCls) (k : Int) (n : Bs) : Bool := if plainK k = true then n.isEmpty else if (k == 3 || k == 5) = true then (placeL l n).isSome else false
end Lx
theorem isRef_any (k : Int) (nb : ByteArray) (w : World) :
 Calls Tryz.prog 48 #[.agg #[.int .i64 k, .string nb]] w fun e w' => e = .returned (.bool (k != 2 && k != 7)) /\ Below w.heap.size w w' := by
 have HB0 := hide ((Below.refl w.heap.size w).alloc (Nat.le_refl _) (.cells #[.int .i64 k, .string nb] 36)); obtain ⟨r, hr⟩ : ∃ r, r = (k != 2 && k != 7) := ⟨_, rfl⟩; have HR := hide hr; rw [<- hr]; clear hr; go_enter Tryz.func48, Tryz.ntmps48; by_cases h2 : k = 2
 · subst h2
   have HF : Hid (r = false) := hide (by rw [HR.out]; decide)
   go_wp2_with fail; go_ret; exact ⟨by rw [HF.out]; rfl, HB0.out⟩
 by_cases h7 : k = 7
 · subst h7
   have HF : Hid (r = false) := hide (by rw [HR.out]; decide)
   go_wp2_with fail; go_ret; exact ⟨by rw [HF.out]; rfl, HB0.out⟩
 have HF : Hid (r = true) := hide (by rw [HR.out]; simp [h2, h7])
 have g2 : (k == 2) = false := by simpa using h2
 have g7 : (k == 7) = false := by simpa using h7
 have f2 : (k != 2) = true := by simpa using h2
 have f7 : (k != 7) = true := by simpa using h7
 go_wp2_with fail; go_ret; exact ⟨by rw [HF.out]; rfl, HB0.out⟩
namespace Hr
def underB (cs : List Pp.XCls) (a b : Pp.Bs) : Bool := decide (errL cs = 0) && match growL (allL cs) (allL cs), placeL (allL cs) a, placeL (allL cs) b with
 | some up, some i, some j => i == j || j == 0 || farB up i j
 | _, _, _ => false
theorem underB_iff (cs : List Pp.XCls) (a b : Pp.Bs) : underB cs a b = true ↔ underQ cs a b := by
 unfold underB underQ; by_cases he : errL cs = 0
 · cases hg : growL (allL cs) (allL cs) with
   | none => simp [he]
   | some up =>
     cases ha : placeL (allL cs) a with
     | none => simp [he]
     | some i =>
       cases hb : placeL (allL cs) b with
       | none => simp [he]
       | some j =>
         simp only [he, decide_true, Bool.true_and, Bool.or_eq_true, beq_iff_eq]; rw [farB_iff (grow_low hg)]; constructor
         · intro h; exact ⟨up, i, j, trivial, rfl, rfl, rfl, by rcases h with (h | h) | h <;> simp [h]⟩
         · rintro ⟨_, _, _, _, h1, h2, h3, h⟩
           cases h1; cases h2; cases h3
           rcases h with h | h | h <;> simp [h]
 · simp [he]
end Hr
namespace Hr
theorem light_all {cs : List Pp.XCls} (h : Pp.Light cs) : ∀ c ∈ allL cs, Pp.LtC c := by
 intro c hc
 rcases List.mem_append.1 hc with hc | hc
 · simp only [base, subs, List.map_cons, List.map_nil, List.mem_cons, List.not_mem_nil, or_false] at hc
   rcases hc with rfl | rfl | rfl | rfl | rfl | rfl | rfl | rfl <;> exact ⟨⟨by decide, by decide, by decide, by decide, by decide⟩, (by intro x hx; cases hx), (by intro x hx; cases hx), (by intro x hx; cases hx)⟩
 · exact h.2 c hc
end Hr
def Hr.FindIs (w0 w : World) (base : Nat) (cs : List Pp.XCls) (nm : Pp.Bs) (e : Ending) : Prop :=
 match Hr.lookL cs nm with
 | none => e = .returned (.tuple #[.agg #[.string ⟨#[]⟩, .bool false, .string ⟨#[]⟩, .slice none 0 0, .slice none 0 0, .slice none 0 0], .bool false])
 | some k => ∃ c ys, (Hr.allL cs)[k]? = some c /\ e = .returned (.tuple #[.agg ys.toArray, .bool true]) /\ Ow.ClsO w base c ys
theorem Ow.sets6 {w : World} {n : Nat} {t : TypeId} (u0 u1 u2 u3 u4 u5 : Value) (h0 : Ow.Ty w n t) :
 Ow.Kx t w ((((((w.setCell ⟨n, 0, none⟩ u0).setCell ⟨n, 1, none⟩ u1).setCell ⟨n, 2, none⟩ u2).setCell ⟨n, 3, none⟩ u3).setCell ⟨n, 4, none⟩ u4).setCell ⟨n, 5, none⟩ u5) /\
 Below n w ((((((w.setCell ⟨n, 0, none⟩ u0).setCell ⟨n, 1, none⟩ u1).setCell ⟨n, 2, none⟩ u2).setCell ⟨n, 3, none⟩ u3).setCell ⟨n, 4, none⟩ u4).setCell ⟨n, 5, none⟩ u5) := by
 have key : ∀ (k : Nat) (u : Value) (x : World), (Ow.Ty x n t /\ Ow.Kx t w x /\ Below n w x) -> (Ow.Ty (x.setCell ⟨n, k, none⟩ u) n t /\ Ow.Kx t w (x.setCell ⟨n, k, none⟩ u) /\ Below n w (x.setCell ⟨n, k, none⟩ u)) := fun k u x h => ⟨h.1.set _ _ _, h.2.1.trans (Ow.Kx.set h.1 k u), h.2.2.trans ((Below.refl n x).setCell (p := ⟨n, k, none⟩) (Nat.le_refl n) u)⟩; have a0 : Ow.Ty w n t /\ Ow.Kx t w w /\ Below n w w := ⟨h0, Ow.Kx.refl _ _, Below.refl _ _⟩; exact (key 5 u5 _ (key 4 u4 _ (key 3 u3 _ (key 2 u2 _ (key 1 u1 _ (key 0 u0 _ a0)))))).2
theorem Find_any (cs : List Pp.XCls) (v : Value) (nm : Pp.Bs) (w : World) (ht : TabS w) (h : ProgX w v cs) (hl : Pp.Light cs) :
 Calls Tryz.prog 60 #[.agg #[v], .string ⟨nm.toArray⟩] w fun e w' => Hr.FindIs w w' w.heap.size cs nm e /\ Below w.heap.size w w' := by
 have HG := hide (fun wx (hb : Below w.heap.size w wx) => look_any cs v nm w wx (ht.below hb) hb h); have HLt := hide (Hr.light_all hl); obtain ⟨pa, pc, rfl, _⟩ := h.1.len; clear h ht hl; generalize cs.length = n at *
 have hx1 := hide (Ow.blk_alloc2b w (.cells #[.slice pa n pc] 24) (.cells #[.string ⟨#[]⟩, .bool false, .string ⟨#[]⟩, .slice none 0 0, .slice none 0 0, .slice none 0 0] 33)); have HB0 := hide (Ow.bel_alloc2 w (.cells #[.slice pa n pc] 24) (.cells #[.string ⟨#[]⟩, .bool false, .string ⟨#[]⟩, .slice none 0 0, .slice none 0 0, .slice none 0 0] 33)); unfold Hr.FindIs; cases hk : Hr.lookL cs nm with
 | none =>
   rw [hk] at HG; simp only [Hr.pairP] at HG; clear hk; go_enter Tryz.func60, Tryz.ntmps60; go_wp2_with fail; generalize (w.alloc (.cells #[.slice pa n pc] 24)).alloc (.cells #[.string ⟨#[]⟩, .bool false, .string ⟨#[]⟩, .slice none 0 0, .slice none 0 0, .slice none 0 0] 33) = w0 at *
   refine (HG.out _ HB0.out).mono ?_; rintro e w1 ⟨⟨a1, n1, c1, a2, n2, c2, rfl, _⟩, hb1⟩; have HX1 := hide ((hb1.block _ (Ow.lt_of_blk hx1.out)).trans hx1.out); have HB1 := hide (HB0.out.trans (hb1.mono HB0.out.size)); have hA := (Below.refl w1.heap.size w1).alloc (Nat.le_refl _) (.cells #[.slice a1 n1 c1, .slice a2 n2 c2] 60); have HX2 := hide ((hA.block _ (Ow.lt_of_blk HX1.out)).trans HX1.out); have HB2 := hide (HB1.out.trans (hA.mono HB1.out.size)); have HS := hide (Ow.sets6 (.string ⟨#[]⟩) (.bool false) (.string ⟨#[]⟩) (.slice none 0 0) (.slice none 0 0) (.slice none 0 0) ⟨_, _, HX2.out⟩); have f0 := Ow.fz_blk HX2.out 0; have f1 := Ow.fz_blk HX2.out 1; have f2 := Ow.fz_blk HX2.out 2; have f3 := Ow.fz_blk HX2.out 3; have f4 := Ow.fz_blk HX2.out 4; have f5 := Ow.fz_blk HX2.out 5; have q0 := cell_box HX2.out 0; have q1 := cell_box HX2.out 1; have q2 := cell_box HX2.out 2; have q3 := cell_box HX2.out 3; have q4 := cell_box HX2.out 4; have q5 := cell_box HX2.out 5; have HB3 := hide (HB2.out.trans (HS.out.2.mono (Nat.le_succ _))); clear hA hb1 hx1 HX1 HG; go_wp2_with fail; refine bodyPost_ret (v := .tuple #[.agg #[.string ⟨#[]⟩, .bool false, .string ⟨#[]⟩, .slice none 0 0, .slice none 0 0, .slice none 0 0], .bool false]) (by simp [results, Tryz.results60, go_sem, *]) rfl ?_
   exact ⟨rfl, HB3.out⟩
 | some k =>
   obtain ⟨he, hp⟩ := Hr.lookL_some hk; obtain ⟨c, hc, -, -⟩ := Hr.placeL_lt hp; have HCc := hide hc; have HE := hide he; rw [hk] at HG; simp only [Hr.pairP] at HG; have HLc := hide (HLt.out c (List.mem_of_getElem? hc)); clear hk he hp hc HLt; go_enter Tryz.func60, Tryz.ntmps60; go_wp2_with fail; generalize (w.alloc (.cells #[.slice pa n pc] 24)).alloc (.cells #[.string ⟨#[]⟩, .bool false, .string ⟨#[]⟩, .slice none 0 0, .slice none 0 0, .slice none 0 0] 33) = w0 at *
   refine (HG.out _ HB0.out).mono ?_; rintro e w1 ⟨⟨a1, n1, c1, a2, n2, c2, rfl, htr⟩, hb1⟩; obtain ⟨up, htr⟩ := htr HE.out; have HX1 := hide ((hb1.block _ (Ow.lt_of_blk hx1.out)).trans hx1.out); have HB1 := hide (HB0.out.trans (hb1.mono HB0.out.size)); have HTx := hide (htr.x HB1.out)
   obtain ⟨hn1, hm1⟩ : n1 = (Hr.allL cs).length /\ n1 <= 1000 := by
    obtain ⟨_, _, hsh⟩ := htr.all.shape; injection hsh with _ hsh2 _; exact ⟨hsh2, by rw [hsh2]; exact htr.top⟩
   have hkm : k < n1 := by rw [hn1]; exact (List.getElem?_eq_some_iff.1 HCc.out).1
   clear hn1 htr; obtain ⟨g1, o1, eg1, ys1, w1', hc1⟩ := Hr.row_at HTx.out.all HCc.out; subst eg1; have hA := (Below.refl w1.heap.size w1).alloc (Nat.le_refl _) (.cells #[.slice (some ⟨g1, o1, none⟩) n1 c1, .slice a2 n2 c2] 60); have HA := hide hA; have HX2 := hide ((hA.block _ (Ow.lt_of_blk HX1.out)).trans HX1.out); have HB2 := hide (HB1.out.trans (hA.mono HB1.out.size)); have HM := hide (fun wx (hb : Below w1.heap.size w1 wx) => copyClass_any c ys1 wx (w1'.on hb) HLc.out); have hr := hc1 _ hA; obtain ⟨va1, vd1, va2, vd2, va3, vd3, rfl⟩ := Hr.at_c w1'; have r0 := hr 0 _ rfl; have r1 := hr 1 _ rfl; have r2 := hr 2 _ rfl; have r3 := hr 3 _ rfl; have r4 := hr 4 _ rfl; have r5 := hr 5 _ rfl; rw [Nat.add_zero] at r0; have hkm' : (k : Int) < (n1 : Int) := by omega
   have hm1' : (n1 : Int) <= 1000 := by omega
   clear hA hb1 hx1 HG HTx w1' hr hc1 HX1 HB1; go_wp2_with fail; refine (HM.out _ HA.out).mono ?_; rintro e w3 ⟨ys', rfl, ho3, hb3⟩; have HX3 := hide ((hb3.block _ (Ow.lt_of_blk HX2.out)).trans HX2.out); have HB3 := hide (HB2.out.trans (hb3.mono HB2.out.size)); have HO3 : Hid (Ow.ClsO w3 w.heap.size c ys') := hide (ho3.on (Below.refl _ _) HB2.out.size); obtain ⟨vp, vc, vk, rfl, p1, i1, k1, z1⟩ := ho3; obtain ⟨xa1, xd1, rfl⟩ := p1.shape; obtain ⟨xa2, xd2, rfl⟩ := i1.shape; obtain ⟨xa3, xd3, rfl⟩ := k1.shape; clear p1 i1 k1 z1 hb3 r0 r1 r2 r3 r4 r5; have HS := hide (Ow.sets6 (.string ⟨c.name.toArray⟩) (.bool c.iface) (.string ⟨c.super.toArray⟩) (.slice xa1 c.ifaces.length xd1) (.slice xa2 c.fields.length xd2) (.slice xa3 c.methods.length xd3) ⟨_, _, HX3.out⟩); have f0 := Ow.fz_blk HX3.out 0; have f1 := Ow.fz_blk HX3.out 1; have f2 := Ow.fz_blk HX3.out 2; have f3 := Ow.fz_blk HX3.out 3; have f4 := Ow.fz_blk HX3.out 4; have f5 := Ow.fz_blk HX3.out 5; have q0 := cell_box HX3.out 0; have q1 := cell_box HX3.out 1; have q2 := cell_box HX3.out 2; have q3 := cell_box HX3.out 3; have q4 := cell_box HX3.out 4; have q5 := cell_box HX3.out 5; have HB4 := hide (HB3.out.trans (HS.out.2.mono (Nat.le_succ _))); have HO4 := hide (HO3.out.kx HS.out.1 (by decide) (by decide) (by decide) (by decide) (by decide) (by decide))
   clear HO3; simp only [clsXL, List.toArray] at HO4 ⊢; go_wp2_with fail; refine bodyPost_ret (v := .tuple #[.agg #[.string ⟨c.name.toArray⟩, .bool c.iface, .string ⟨c.super.toArray⟩, .slice xa1 c.ifaces.length xd1, .slice xa2 c.fields.length xd2, .slice xa3 c.methods.length xd3], .bool true]) (by simp [results, Tryz.results60, go_sem, *]) rfl ?_
   exact ⟨⟨c, _, HCc.out, rfl, HO4.out⟩, HB4.out⟩
end Go.Proofs.YtbbbnciejmdpfabGreatDoor

/- What the laws of this seat lean on: 3 texts. -/
import Derived.Test.YtjlappamkfjlkaaGreatDoorPkAw
import Derived.Test.YtjlappamkfjlkaaGreatDoorPkAx
import Derived.Test.YtjlappamkfjlkaaGreatDoorPkAs
import Derived.Test.YtjlappamkfjlkaaGreatDoorPkAa
import Derived.Test.YtjlappamkfjlkaaGreatDoorPkAk
set_option maxRecDepth 100000
set_option maxHeartbeats 64000000
set_option linter.unusedVariables false
set_option linter.unusedSimpArgs false
namespace Go.Proofs.YtjlappamkfjlkaaGreatDoor
open Go.RowKit
namespace Ly
open Pp Hr
theorem firstL_none {α : Type} {f : α -> Int} : ∀ {l : List α}, (∀ x ∈ l, f x = 0) -> firstL f l = 0
 | [], _ => rfl
 | a :: l, h => by
   unfold firstL; rw [if_pos (h a (by simp))]
   exact firstL_none fun x hx => h x (List.mem_cons_of_mem _ hx)
theorem first8 {f : Nat -> Int} (m : Nat) (h : ∀ k, k < 8 -> f k = 0) : firstL f ((List.range m).take 8) = 0 := by
 refine firstL_none fun x hx => h x ?_; obtain ⟨i, h1, h2⟩ := List.getElem_of_mem hx; rw [List.length_take, List.length_range] at h1; rw [List.getElem_take, List.getElem_range] at h2; omega
theorem super_there {cs : List XCls} {up : List (List Nat)} (he : errL cs = 0) (hg : growL (allL cs) (allL cs) = some up) {k : Nat} (hk : k < (allL cs).length) (h8 : 8 <= k) (hi : (clP (allL cs) k).iface = false) : ∃ q, superL (clP (allL cs) k) = some (superS (clP (allL cs) k)) /\ placeL (allL cs) (superS (clP (allL cs) k)) = some q := by
 have ho := (err_zero he).2.1
 have hn : (clP (allL cs) k).name ≠ objN := fun h => by
  have h1 := ho k _ (at_of hk); rw [h, place_top] at h1; injection h1 with h1; omega
 obtain ⟨s, hs⟩ : ∃ s, superL (clP (allL cs) k) = some s := by
  unfold superL; rw [if_neg (by rw [hi]; rintro (h | h); exact absurd h (by decide); exact hn h)]
  split
  · exact ⟨_, rfl⟩
  · exact ⟨_, rfl⟩
 have e : superS (clP (allL cs) k) = s := by unfold superS; rw [hs]; rfl
 obtain ⟨q, h1, _⟩ := super_at he hg hk hs; rw [e]; exact ⟨q, hs, h1⟩
end Ly
theorem RLayout_any (cs : List Pp.XCls) (v : Value) (w : World) (h : ProgX w v cs) (hl : Pp.Light cs) :
 Calls Tryz.prog 11 #[.agg #[v]] w fun e w' => e = .returned (.int .i64 (Ly.layE cs)) /\ Below w.heap.size w w' := by
 have HHi := hide (fun wx (hb : Below w.heap.size w wx) => RHier_any cs v wx (h.on hb) hl); have HAl := hide (fun wx (hb : Below w.heap.size w wx) => RAll_any cs v wx (h.on hb) hl); have hlen : (Hr.allL cs).length <= 22 := by show (Hr.base ++ cs).length <= 22; rw [List.length_append]; show 8 + cs.length <= 22; have := hl.1; omega
 have hlen8 : 8 <= (Hr.allL cs).length := by show 8 <= (Hr.base ++ cs).length; rw [List.length_append]; show 8 <= 8 + cs.length; omega
 obtain ⟨pa, pc, rfl, _⟩ := h.1.len; generalize cs.length = n at *
 obtain ⟨r, hr⟩ : ∃ r, r = Ly.layE cs := ⟨_, rfl⟩; have HR := hide hr; rw [<- hr]; clear h hr; have HX := hide (heap_alloc_new w (.cells #[.slice pa n pc] 24)); have HB0 := hide ((Below.refl w.heap.size w).alloc (Nat.le_refl _) (.cells #[.slice pa n pc] 24)); go_enter Tryz.func11, Tryz.ntmps11; go_wp2_with fail; generalize w.alloc (.cells #[.slice pa n pc] 24) = w0 at *
 refine (HHi.out w0 HB0.out).mono ?_; rintro e ws ⟨rfl, hbs⟩; have HBs := hide (HB0.out.trans (hbs.mono HB0.out.size)); have c0 := cell_box ((hbs.block _ (Ow.lt_of_blk HX.out)).trans HX.out) 0; clear hbs HB0 HX HHi; obtain ⟨er, her⟩ : ∃ y, y = Hr.errL cs := ⟨_, rfl⟩; rw [<- her]; by_cases he0 : er = 0
 · subst he0
   have he := her.symm; obtain ⟨hpg, _, up, hg, _⟩ := Hr.err_zero he
   have hR : r = Ly.checkF (Ly.pnet (Hr.allL cs) up) (Hr.allL cs) (List.range (Hr.allL cs).length) := by
    rw [HR.out]; unfold Ly.layE; rw [if_pos he, hg]
   clear her HR; go_wp2_with fail; refine (HAl.out ws HBs.out).mono ?_; rintro e w1 ⟨vl, rfl, hol, hb1⟩; have HW := hide (HBs.out.trans (hb1.mono HBs.out.size)); have HRow : Hid (∀ wy, Below w1.heap.size w1 wy -> RowX wy 6 (ClsX wy) vl (Hr.allL cs)) := hide fun wy hb => (hol.row Ow.shp_cls fun _ _ h => h.x).on hb fun _ _ h => h.on hb; obtain ⟨la, lc, rfl⟩ := hol.shape; have hl0 : (Hr.allL cs)[0]? = some (Hr.plain Hr.objN []) := rfl; obtain ⟨g, o, rfl, -⟩ := Hr.row_at (HRow.out w1 (Below.refl _ _)) hl0; clear hb1 hol HAl HBs c0 hl0; obtain ⟨E1, hE1⟩ : ∃ f : Nat -> Int, f = fun b => Ly.memF (Hr.allL cs) ((Ly.pnet (Hr.allL cs) up).cl b) := ⟨_, rfl⟩; obtain ⟨E2, hE2⟩ : ∃ f : Nat -> Int, f = Ly.supF (Ly.pnet (Hr.allL cs) up) := ⟨_, rfl⟩; obtain ⟨E3, hE3⟩ : ∃ f : Nat -> Int, f = Ly.ifcF (Ly.pnet (Hr.allL cs) up) (List.range (Hr.allL cs).length) := ⟨_, rfl⟩; have HZ1 := hide (Ly.first8 (f := E1) (Hr.allL cs).length fun k hk => by rw [hE1]; exact Ly.base_mem _ hk)
   have HZ2 := hide (Ly.first8 (f := E2) (Hr.allL cs).length fun k hk => by rw [hE2]; exact Ly.base_sup hg hk)
   have HZ3 := hide (Ly.first8 (f := E3) (Hr.allL cs).length fun k hk => by rw [hE3]; exact Ly.base_ifc he hg hk)
   unfold Ly.checkF at hR; rw [<- hE1, <- hE2, <- hE3] at hR; have HIfc : Hid (∀ j, j < (Hr.allL cs).length -> (Ly.clP (Hr.allL cs) j).iface = true -> E2 j = 0 /\ E3 j = 0) := hide fun j hj hi => ⟨by rw [hE2]; exact Ly.sup_iface he hg hj hi, by rw [hE3]; unfold Ly.ifcF; exact if_pos hi⟩
   have HC1 : Hid (∀ j, j < (Hr.allL cs).length -> ∀ wx, Below w1.heap.size w1 wx -> ∀ ys, ClsX wx (Ly.clP (Hr.allL cs) j) ys -> Calls Tryz.prog 36 #[.slice (some ⟨g, o, none⟩) (Hr.allL cs).length lc, .agg ys.toArray] wx fun e w' => e = .returned (.int .i64 (E1 j)) /\ Below wx.heap.size wx w') := hide fun j hj wx hb ys hy => by
    have hf := Ly.all_facts hpg (Ly.at_of hj); have h1 := membersA_any (Hr.allL cs) _ _ ys wx (HRow.out wx hb) (by omega) hy (by omega) (by omega) (fun m hm => by have := Ly.all_pars hpg (Ly.at_of hj) m hm; omega)
    rw [Ly.memG_eq _ (Ly.all_tyd hpg (Ly.at_of hj))] at h1; rw [hE1]; exact h1
   have HC2 : Hid (∀ j, j < (Hr.allL cs).length -> 8 <= j -> ∀ wx, Below w1.heap.size w1 wx -> ∀ ys, ClsX wx (Ly.clP (Hr.allL cs) j) ys -> (Ly.clP (Hr.allL cs) j).iface = false -> Calls Tryz.prog 37 #[.slice (some ⟨g, o, none⟩) (Hr.allL cs).length lc, .agg ys.toArray] wx fun e w' => e = .returned (.int .i64 (E2 j)) /\ Below wx.heap.size wx w') := hide fun j hj h8 wx hb ys hy hi => by
    have hf := Ly.all_facts hpg (Ly.at_of hj); obtain ⟨q, hs, hq⟩ := Ly.super_there he hg hj h8 hi; have h1 := inherits_any he hg hl _ _ ys q hq wx (HRow.out wx hb) hy (by omega) (by omega) (fun m hm => by have := Ly.all_pars hpg (Ly.at_of hj) m hm; omega)
    rw [Ly.inh_sup he hg hj hs hq] at h1; rw [hE2]; exact h1
   have HC3 : Hid (∀ j, j < (Hr.allL cs).length -> ∀ wx, Below w1.heap.size w1 wx -> ∀ ys, ClsX wx (Ly.clP (Hr.allL cs) j) ys -> (Ly.clP (Hr.allL cs) j).iface = false -> Calls Tryz.prog 38 #[.slice (some ⟨g, o, none⟩) (Hr.allL cs).length lc, .agg ys.toArray] wx fun e w' => e = .returned (.int .i64 (E3 j)) /\ Below wx.heap.size wx w') := hide fun j hj wx hb ys hy hi => by
    have h1 := keeps_any he hg hl _ j hj ys wx (HRow.out wx hb) hy
    have e : E3 j = Ly.firstL (Ly.faceF (Ly.pnet (Hr.allL cs) up) j) (List.range (Hr.allL cs).length) := by
     rw [hE3]; unfold Ly.ifcF; exact if_neg (by show ¬ (Ly.clP (Hr.allL cs) j).iface = true; rw [hi]; decide)
    rw [e]; exact h1
   obtain ⟨L, hL⟩ : ∃ L, L = Hr.allL cs := ⟨_, rfl⟩; rw [<- hL] at HRow HC1 HC2 HC3 HZ1 HZ2 HZ3 HIfc hR hlen hlen8 ⊢; clear hE1 hE2 hE3 he hg hpg hl hL; obtain ⟨m, hm⟩ : ∃ q, q = L.length := ⟨_, rfl⟩; have HM := hide hm; rw [<- hm] at HRow HC1 HC2 HC3 HZ1 HZ2 HZ3 HIfc hR hlen hlen8 ⊢; clear hm; have HM8 := hide hlen8; have HR1 : Hid (Ly.firstL E1 (List.range m) ≠ 0 -> r = Ly.firstL E1 (List.range m)) := hide fun h => by rw [hR, if_neg h]
   have HR2 : Hid (Ly.firstL E1 (List.range m) = 0 -> Ly.firstL E2 (List.range m) ≠ 0 -> r = Ly.firstL E2 (List.range m)) := hide fun h h2 => by rw [hR, if_pos h, if_neg h2]
   have HR3 : Hid (Ly.firstL E1 (List.range m) = 0 -> Ly.firstL E2 (List.range m) = 0 -> Ly.firstL E3 (List.range m) ≠ 0 -> r = Ly.firstL E3 (List.range m)) := hide fun h h2 h3 => by rw [hR, if_pos h, if_pos h2]
   have HR0 : Hid (Ly.firstL E1 (List.range m) = 0 -> Ly.firstL E2 (List.range m) = 0 -> Ly.firstL E3 (List.range m) = 0 -> r = 0) := hide fun h h2 h3 => by rw [hR, if_pos h, if_pos h2, h3]
   clear hR; have hmm : (m : Int) <= 22 := by omega
   go_wp2_with fail; refine (Base_any _).mono ?_; rintro e wb ⟨vb, rfl, hob, hbb⟩; obtain ⟨ba, bc, rfl⟩ := hob.shape; have HB0 := hide ((Below.refl _ _ : Below w1.heap.size w1 _).trans (hbb.mono (Nat.le_refl _))); clear hob hbb; rw [show Hr.base.length = 8 from rfl]
   go_wp2_with fail
   go_loopw [5] (fun i wr => ∃ j : Nat, 8 <= j /\ j <= m /\ i = .int .i64 j /\ Hid (Below w1.heap.size w1 wr) /\ Hid (Ly.firstL E1 ((List.range m).take j) = 0)) (fun i _ => m - (intOf i).toNat)
   case atStart => exact ⟨8, Nat.le_refl _, HM8.out, rfl, HB0, HZ1⟩
   case round =>
    clear HB0; obtain ⟨j, h8, hj, rfl, HQ, HZ⟩ := hrel; by_cases hjl : j < m
    · have hx := Ly.at_of (l := L) (k := j) (by rw [<- HM.out]; exact hjl)
      have hxr : (List.range m)[j]? = some j := by simp [hjl]
      have HSt := hide (fun hf => Ly.firstL_stop (f := E1) HZ.out hxr hf); have HTk := hide (Ly.firstL_take (f := E1) HZ.out hxr); have hcall := fun wx hb ys h => HC1.out j hjl wx hb ys h; obtain ⟨d, hd⟩ : ∃ y, y = Ly.clP L j := ⟨_, rfl⟩; rw [<- hd] at hx; rw [<- hd] at hcall; have HCall := hide hcall; obtain ⟨g', o', e3, ys, wf, hc⟩ := Ow.row_at' (HRow.out wr HQ.out) hx; injection e3 with e3; injection e3 with e4 e5; subst e4; subst e5; have HCc := hide hc; have hwf := wf; obtain ⟨ia', ic', fa', fc', ma', mc', rfl, _, _, _⟩ := cls_open wf; have q0 := HCc.out wr (Below.refl _ _) 0 _ rfl; have q1 := HCc.out wr (Below.refl _ _) 1 _ rfl; have q2 := HCc.out wr (Below.refl _ _) 2 _ rfl; have q3 := HCc.out wr (Below.refl _ _) 3 _ rfl; have q4 := HCc.out wr (Below.refl _ _) 4 _ rfl; have q5 := HCc.out wr (Below.refl _ _) 5 _ rfl; rw [Nat.add_zero] at q0; have HK := hide (HCall.out wr HQ.out _ hwf); obtain ⟨lf, hlf⟩ : ∃ q, q = E1 j := ⟨_, rfl⟩; rw [<- hlf] at HSt HTk HK; have HLf2 := hide hlf; clear hx hxr hc wf hcall HCall HZ hlf hwf HCc hd; have hjl' : (j : Int) < (m : Int) := by omega
      go_wp2_with fail; refine HK.out.mono ?_; rintro e w5 ⟨rfl, hb5⟩; have HQ5 := hide (HQ.out.trans (hb5.mono HQ.out.size)); clear HK hb5; by_cases hl0 : lf = 0
      · subst hl0
        have HT5 := hide HTk.out; clear HSt HTk; go_wp2_with fail
        go_roundw
        case rel => first | exact ⟨j + 1, by omega, by omega, by go_num, HQ5, HT5⟩ | ((repeat apply Exists.intro); exact ⟨⟨j + 1, by omega, by omega, by go_num, HQ5, HT5⟩, rfl⟩)
        case measure => simp [intOf]; omega
      · have hl0' : (lf != 0) = true := by simpa using hl0
        have HRes : Hid (r = lf) := hide (by
         have h1 := HSt.out hl0; have h2 := HR1.out (by rw [h1]; exact hl0)
         rw [h2, h1])
        clear HSt HTk; go_wp2_with fail; go_ret; exact ⟨by rw [HRes.out]; rfl, HW.out.trans (HQ5.out.mono HW.out.size)⟩
    · have HP1 : Hid (Ly.firstL E1 (List.range m) = 0) := hide (by
       have h1 := HZ.out; rw [List.take_of_length_le (by rw [List.length_range]; omega)] at h1
       exact h1)
      have hnl : ¬ ((j : Int) < (m : Int)) := by omega
      clear HZ; go_wp2_with fail; refine (Base_any _).mono ?_; rintro e wb ⟨vb, rfl, hob, hbb⟩; obtain ⟨ba, bc, rfl⟩ := hob.shape; have HB1 := hide ((HQ.out : Below w1.heap.size w1 _).trans (hbb.mono (HQ.out.size))); clear hob hbb HQ; rw [show Hr.base.length = 8 from rfl]
      go_wp2_with fail
      go_loopw [7] (fun i wr => ∃ j : Nat, 8 <= j /\ j <= m /\ i = .int .i64 j /\ Hid (Below w1.heap.size w1 wr) /\ Hid (Ly.firstL E2 ((List.range m).take j) = 0)) (fun i _ => m - (intOf i).toNat)
      case atStart => exact ⟨8, Nat.le_refl _, HM8.out, rfl, HB1, HZ2⟩
      case round =>
       clear HB1; obtain ⟨j, h8, hj, rfl, HQ, HZ⟩ := hrel; by_cases hjl : j < m
       · have hx := Ly.at_of (l := L) (k := j) (by rw [<- HM.out]; exact hjl)
         have hxr : (List.range m)[j]? = some j := by simp [hjl]
         have HSt := hide (fun hf => Ly.firstL_stop (f := E2) HZ.out hxr hf); have HTk := hide (Ly.firstL_take (f := E2) HZ.out hxr); have hcall := fun wx hb ys h => HC2.out j hjl h8 wx hb ys h; obtain ⟨d, hd⟩ : ∃ y, y = Ly.clP L j := ⟨_, rfl⟩; rw [<- hd] at hx; have HIf := hide (HIfc.out j hjl); rw [<- hd] at HIf; rw [<- hd] at hcall; have HCall := hide hcall; obtain ⟨g', o', e3, ys, wf, hc⟩ := Ow.row_at' (HRow.out wr HQ.out) hx; injection e3 with e3; injection e3 with e4 e5; subst e4; subst e5; have HCc := hide hc; have hwf := wf; obtain ⟨ia', ic', fa', fc', ma', mc', rfl, _, _, _⟩ := cls_open wf; have q0 := HCc.out wr (Below.refl _ _) 0 _ rfl; have q1 := HCc.out wr (Below.refl _ _) 1 _ rfl; have q2 := HCc.out wr (Below.refl _ _) 2 _ rfl; have q3 := HCc.out wr (Below.refl _ _) 3 _ rfl; have q4 := HCc.out wr (Below.refl _ _) 4 _ rfl; have q5 := HCc.out wr (Below.refl _ _) 5 _ rfl; rw [Nat.add_zero] at q0; have HK := hide (HCall.out wr HQ.out _ hwf); obtain ⟨lf, hlf⟩ : ∃ q, q = E2 j := ⟨_, rfl⟩; rw [<- hlf] at HSt HTk HK; have HLf2 := hide hlf; clear hx hxr hc wf hcall HCall HZ hlf hwf HCc hd; have hjl' : (j : Int) < (m : Int) := by omega
         by_cases hif : d.iface = true
         · rw [hif] at q1
           have HT5 := hide (HTk.out.trans (HLf2.out.trans (HIf.out hif).1)); clear HSt HTk HK HIf; go_wp2_with fail
           go_roundw
           case rel => first | exact ⟨j + 1, by omega, by omega, by go_num, HQ, HT5⟩ | ((repeat apply Exists.intro); exact ⟨⟨j + 1, by omega, by omega, by go_num, HQ, HT5⟩, rfl⟩)
           case measure => simp [intOf]; omega
         · have hif : d.iface = false := by simpa using hif
           have HK2 := hide (HK.out hif); rw [hif] at q1 HK2; go_wp2_with fail; refine HK2.out.mono ?_; rintro e w5 ⟨rfl, hb5⟩; have HQ5 := hide (HQ.out.trans (hb5.mono HQ.out.size)); clear HK hb5; by_cases hl0 : lf = 0
           · subst hl0
             have HT5 := hide HTk.out; clear HSt HTk; go_wp2_with fail
             go_roundw
             case rel => first | exact ⟨j + 1, by omega, by omega, by go_num, HQ5, HT5⟩ | ((repeat apply Exists.intro); exact ⟨⟨j + 1, by omega, by omega, by go_num, HQ5, HT5⟩, rfl⟩)
             case measure => simp [intOf]; omega
           · have hl0' : (lf != 0) = true := by simpa using hl0
             have HRes : Hid (r = lf) := hide (by
              have h1 := HSt.out hl0; have h2 := HR2.out HP1.out (by rw [h1]; exact hl0)
              rw [h2, h1])
             clear HSt HTk; go_wp2_with fail; go_ret; exact ⟨by rw [HRes.out]; rfl, HW.out.trans (HQ5.out.mono HW.out.size)⟩
       · have HP2 : Hid (Ly.firstL E2 (List.range m) = 0) := hide (by
          have h1 := HZ.out; rw [List.take_of_length_le (by rw [List.length_range]; omega)] at h1
          exact h1)
         have hnl : ¬ ((j : Int) < (m : Int)) := by omega
         clear HZ; go_wp2_with fail; refine (Base_any _).mono ?_; rintro e wb ⟨vb, rfl, hob, hbb⟩; obtain ⟨ba, bc, rfl⟩ := hob.shape; have HB2 := hide ((HQ.out : Below w1.heap.size w1 _).trans (hbb.mono (HQ.out.size))); clear hob hbb HQ; rw [show Hr.base.length = 8 from rfl]
         go_wp2_with fail
         go_loopw [9] (fun i wr => ∃ j : Nat, 8 <= j /\ j <= m /\ i = .int .i64 j /\ Hid (Below w1.heap.size w1 wr) /\ Hid (Ly.firstL E3 ((List.range m).take j) = 0)) (fun i _ => m - (intOf i).toNat)
         case atStart => exact ⟨8, Nat.le_refl _, HM8.out, rfl, HB2, HZ3⟩
         case round =>
          clear HB2; obtain ⟨j, h8, hj, rfl, HQ, HZ⟩ := hrel; by_cases hjl : j < m
          · have hx := Ly.at_of (l := L) (k := j) (by rw [<- HM.out]; exact hjl)
            have hxr : (List.range m)[j]? = some j := by simp [hjl]
            have HSt := hide (fun hf => Ly.firstL_stop (f := E3) HZ.out hxr hf); have HTk := hide (Ly.firstL_take (f := E3) HZ.out hxr); have hcall := fun wx hb ys h => HC3.out j hjl wx hb ys h; obtain ⟨d, hd⟩ : ∃ y, y = Ly.clP L j := ⟨_, rfl⟩; rw [<- hd] at hx; have HIf := hide (HIfc.out j hjl); rw [<- hd] at HIf; rw [<- hd] at hcall; have HCall := hide hcall; obtain ⟨g', o', e3, ys, wf, hc⟩ := Ow.row_at' (HRow.out wr HQ.out) hx; injection e3 with e3; injection e3 with e4 e5; subst e4; subst e5; have HCc := hide hc; have hwf := wf; obtain ⟨ia', ic', fa', fc', ma', mc', rfl, _, _, _⟩ := cls_open wf; have q0 := HCc.out wr (Below.refl _ _) 0 _ rfl; have q1 := HCc.out wr (Below.refl _ _) 1 _ rfl; have q2 := HCc.out wr (Below.refl _ _) 2 _ rfl; have q3 := HCc.out wr (Below.refl _ _) 3 _ rfl; have q4 := HCc.out wr (Below.refl _ _) 4 _ rfl; have q5 := HCc.out wr (Below.refl _ _) 5 _ rfl; rw [Nat.add_zero] at q0; have HK := hide (HCall.out wr HQ.out _ hwf); obtain ⟨lf, hlf⟩ : ∃ q, q = E3 j := ⟨_, rfl⟩; rw [<- hlf] at HSt HTk HK; have HLf2 := hide hlf; clear hx hxr hc wf hcall HCall HZ hlf hwf HCc hd; have hjl' : (j : Int) < (m : Int) := by omega
            by_cases hif : d.iface = true
            · rw [hif] at q1
              have HT5 := hide (HTk.out.trans (HLf2.out.trans (HIf.out hif).2)); clear HSt HTk HK HIf; go_wp2_with fail
              go_roundw
              case rel => first | exact ⟨j + 1, by omega, by omega, by go_num, HQ, HT5⟩ | ((repeat apply Exists.intro); exact ⟨⟨j + 1, by omega, by omega, by go_num, HQ, HT5⟩, rfl⟩)
              case measure => simp [intOf]; omega
            · have hif : d.iface = false := by simpa using hif
              have HK2 := hide (HK.out hif); rw [hif] at q1 HK2; go_wp2_with fail; refine HK2.out.mono ?_; rintro e w5 ⟨rfl, hb5⟩; have HQ5 := hide (HQ.out.trans (hb5.mono HQ.out.size)); clear HK hb5; by_cases hl0 : lf = 0
              · subst hl0
                have HT5 := hide HTk.out; clear HSt HTk; go_wp2_with fail
                go_roundw
                case rel => first | exact ⟨j + 1, by omega, by omega, by go_num, HQ5, HT5⟩ | ((repeat apply Exists.intro); exact ⟨⟨j + 1, by omega, by omega, by go_num, HQ5, HT5⟩, rfl⟩)
                case measure => simp [intOf]; omega
              · have hl0' : (lf != 0) = true := by simpa using hl0
                have HRes : Hid (r = lf) := hide (by
                 have h1 := HSt.out hl0; have h2 := HR3.out HP1.out HP2.out (by rw [h1]; exact hl0)
                 rw [h2, h1])
                clear HSt HTk; go_wp2_with fail; go_ret; exact ⟨by rw [HRes.out]; rfl, HW.out.trans (HQ5.out.mono HW.out.size)⟩
          · have HP3 : Hid (Ly.firstL E3 (List.range m) = 0) := hide (by
             have h1 := HZ.out; rw [List.take_of_length_le (by rw [List.length_range]; omega)] at h1
             exact h1)
            have hnl : ¬ ((j : Int) < (m : Int)) := by omega
            clear HZ; go_wp2_with fail; go_ret; exact ⟨by rw [HR0.out HP1.out HP2.out HP3.out]; rfl, HW.out.trans (HQ.out.mono HW.out.size)⟩
 · have hne : (er != 0) = true := by simpa using he0
   have HRe : Hid (r = er) := hide (by rw [HR.out]; unfold Ly.layE; rw [if_neg (by rw [<- her]; exact he0), her])
   clear HR HAl her; go_wp2_with fail; go_ret; exact ⟨by rw [HRe.out]; rfl, HBs.out⟩
namespace Hv
theorem row_at {α : Type} {W : World} {sz : Nat} {P : α -> List Value -> Prop} {a : Option Addr} {n c : Nat} {l : List α} (h : RowX W sz P (.slice a n c) l) {k : Nat} {x : α} (hx : l[k]? = some x) : ∃ b o, a = some ⟨b, o, none⟩ /\ ∃ ys, P x ys /\ ∀ wx, Below W.heap.size W wx -> ∀ (j : Nat) (u : Value), ys[j]? = some u -> wx.cell? ⟨b, o + k * sz + j, none⟩ = some u := by
 obtain ⟨a', c', e, hc, h⟩ := h; injection e with e1 e2 e3; subst e1
 rcases h with rfl | ⟨b, o, rfl, hlt, hr⟩
 · simp at hx
 · obtain ⟨ys, h1, h2⟩ := hr k x hx
   exact ⟨b, o, rfl, ys, h1, fun wx hb j u hj => (hb.cell (by exact hlt)).trans (h2 j u hj)⟩
def Is (cs : List Pp.XCls) (e : Ending) : Prop := ∃ b, e = .returned (.bool b) /\ (b = false -> Pp.Light cs)
theorem yes (cs : List Pp.XCls) : Is cs (.returned (.bool true)) := ⟨true, rfl, fun h => by cases h⟩
theorem no {cs : List Pp.XCls} (h : Pp.Light cs) : Is cs (.returned (.bool false)) := ⟨false, rfl, fun _ => h⟩
end Hv
theorem Heavy_any (cs : List Pp.XCls) (v : Value) (w : World) (h : ProgX w v cs) :
 Calls Tryz.prog 9 #[.agg #[v]] w fun e w' => Hv.Is cs e /\ Below w.heap.size w w' := by
 obtain ⟨pa, pc, rfl, _⟩ := h.1.len; obtain ⟨len, hlen⟩ : ∃ len, len = cs.length := ⟨_, rfl⟩; have HL := hide hlen; have HX := hide h.1; rw [<- hlen] at HX ⊢; clear h hlen; by_cases h14 : 14 < len
 · have h14' : (14 : Int) < (len : Int) := by omega
   go_enter Tryz.func9, Tryz.ntmps9; go_wp2_with fail; go_ret; exact ⟨Hv.yes _, (Below.refl _ _).alloc (Nat.le_refl _) _⟩
 have h14' : ¬ (14 : Int) < (len : Int) := by omega
 have HB0 : Hid (Below w.heap.size w (w.alloc (.cells #[.slice pa len pc] 24))) := hide ((Below.refl _ _).alloc (Nat.le_refl _) _); have hp0 : (w.alloc (.cells #[.slice pa len pc] 24)).cell? ⟨w.heap.size, 0, none⟩ = some (.slice pa len pc) := cell_box (heap_alloc_new w _) 0; have hs0 : w.heap.size < (w.alloc (.cells #[.slice pa len pc] 24)).heap.size := by simp
 go_enter Tryz.func9, Tryz.ntmps9; go_wp2_with fail; generalize w.alloc (.cells #[.slice pa len pc] 24) = w0 at *
 generalize w.heap.size = bp at hp0 hs0 ⊢
 go_loopw [3] (fun i wr => ∃ k : Nat, k <= len /\ i = .int .i64 k /\ Below w0.heap.size w0 wr /\ Hid (∀ y ∈ cs.take k, Pp.LtC y)) (fun i _ => len - (intOf i).toNat)
 case atStart => exact ⟨0, Nat.zero_le _, rfl, Below.refl _ _, hide (by simp)⟩
 case round =>
  obtain ⟨kA, hkA, rfl, hbA, HA⟩ := hrel; have pA := (hbA.cell (p := ⟨bp, 0, none⟩) (by exact hs0)).trans hp0
  have HBA := hide (HB0.out.trans (hbA.mono HB0.out.size)); have hsA := hbA.size; by_cases hltA : kA < len
  · obtain ⟨x, hx⟩ : ∃ x, cs[kA]? = some x := ⟨cs[kA]'(by rw [<- HL.out]; exact hltA), List.getElem?_eq_getElem _⟩
    obtain ⟨g, o, rfl, ys, hy, hcell⟩ := Hv.row_at HX.out hx; have HX2 := hide hx; have hG := hide (hcell wr HBA.out); obtain ⟨vi, vf, vm, rfl, x1, x2, x3, x4⟩ := hy; obtain ⟨ia, ic, rfl, _⟩ := x1.len; obtain ⟨fa, fc, rfl, _⟩ := x2.len; obtain ⟨ma, mc, rfl, _⟩ := x3.len; have r0 := hG.out 0 _ rfl; have r1 := hG.out 1 _ rfl; have r2 := hG.out 2 _ rfl; have r3 := hG.out 3 _ rfl; have r4 := hG.out 4 _ rfl; have r5 := hG.out 5 _ rfl; rw [Nat.add_zero] at r0; obtain ⟨n1, hn1⟩ : ∃ n, n = x.ifaces.length := ⟨_, rfl⟩; obtain ⟨n2, hn2⟩ : ∃ n, n = x.fields.length := ⟨_, rfl⟩; obtain ⟨n3, hn3⟩ : ∃ n, n = x.methods.length := ⟨_, rfl⟩; have HN1 := hide hn1; have HN2 := hide hn2; have HN3 := hide hn3; rw [<- hn1] at r3 x1; rw [<- hn2] at r4 x2; rw [<- hn3] at r5 x3; have HI := hide x1; have HF := hide x2; have HM := hide x3; obtain ⟨S0, hS0⟩ : ∃ S : ByteArray, S = ⟨x.name.toArray⟩ := ⟨_, rfl⟩; obtain ⟨S2, hS2⟩ : ∃ S : ByteArray, S = ⟨x.super.toArray⟩ := ⟨_, rfl⟩; rw [<- hS0] at r0; rw [<- hS2] at r2; have HS0 : Hid (x.name.length = S0.size) := hide (by rw [hS0]; simp [ByteArray.size])
    have HS2 : Hid (x.super.length = S2.size) := hide (by rw [hS2]; simp [ByteArray.size])
    generalize x.iface = bI at r1; clear hcell x1 x2 x3 x4 hG hn1 hn2 hn3 hS0 hS2 hx HX; have hltA' : (kA : Int) < (len : Int) := by omega
    have HBc : Hid (∀ o, Below w.heap.size w (wr.alloc o)) := hide fun o => HBA.out.alloc HBA.out.size _; by_cases e1 : 14 < n2
    · have e1' : (14 : Int) < (n2 : Int) := by omega
      go_wp2_with fail; go_ret; exact ⟨Hv.yes _, HBc.out _⟩
    have e1' : ¬ (14 : Int) < (n2 : Int) := by omega
    by_cases e2 : 14 < n3
    · have e2' : (14 : Int) < (n3 : Int) := by omega
      go_wp2_with fail; go_ret; exact ⟨Hv.yes _, HBc.out _⟩
    have e2' : ¬ (14 : Int) < (n3 : Int) := by omega
    by_cases e3 : 10 < n1
    · have e3' : (10 : Int) < (n1 : Int) := by omega
      go_wp2_with fail; go_ret; exact ⟨Hv.yes _, HBc.out _⟩
    have e3' : ¬ (10 : Int) < (n1 : Int) := by omega
    by_cases e4 : 60 < S0.size
    · have e4' : (60 : Int) < (S0.size : Int) := by omega
      go_wp2_with fail; go_ret; exact ⟨Hv.yes _, HBc.out _⟩
    have e4' : ¬ (60 : Int) < (S0.size : Int) := by omega
    by_cases e5 : 60 < S2.size
    · have e5' : (60 : Int) < (S2.size : Int) := by omega
      go_wp2_with fail; go_ret; exact ⟨Hv.yes _, HBc.out _⟩
    have e5' : ¬ (60 : Int) < (S2.size : Int) := by omega
    have hc : ∀ j, (wr.alloc (.cells #[.string S0, .bool bI, .string S2, .slice ia n1 ic, .slice fa n2 fc, .slice ma n3 mc] 59)).cell? ⟨wr.heap.size, j, none⟩ = #[Value.string S0, .bool bI, .string S2, .slice ia n1 ic, .slice fa n2 fc, .slice ma n3 mc][j]? := fun j => cell_box (heap_alloc_new wr _) j; have c3 := hc 3; have c4 := hc 4; have c5 := hc 5; have pB : (wr.alloc (.cells #[.string S0, .bool bI, .string S2, .slice ia n1 ic, .slice fa n2 fc, .slice ma n3 mc] 59)).cell? ⟨bp, 0, none⟩ = some (.slice (some ⟨g, o, none⟩) len pc) := ((Below.alloc (Below.refl wr.heap.size wr) (Nat.le_refl _) _).cell (p := ⟨bp, 0, none⟩) (by show bp < wr.heap.size; omega)).trans pA
    have HBC := hide (HBc.out (.cells #[.string S0, .bool bI, .string S2, .slice ia n1 ic, .slice fa n2 fc, .slice ma n3 mc] 59)); have H0C := hide (hbA.alloc hbA.size (.cells #[.string S0, .bool bI, .string S2, .slice ia n1 ic, .slice fa n2 fc, .slice ma n3 mc] 59)); have hsC : wr.heap.size < (wr.alloc (.cells #[.string S0, .bool bI, .string S2, .slice ia n1 ic, .slice fa n2 fc, .slice ma n3 mc] 59)).heap.size := by simp
    go_wp2_with fail; clear hc HBc pA r0 r1 r2 r3 r4 r5 HBA; generalize wr.alloc (.cells #[.string S0, .bool bI, .string S2, .slice ia n1 ic, .slice fa n2 fc, .slice ma n3 mc] 59) = wc at *
    clear hbA; generalize wr.heap.size = bc at hsC c3 c4 c5 hsA ⊢
    go_loopw [5] (fun i wr => ∃ k : Nat, k <= n2 /\ i = .int .i64 k /\ Below wc.heap.size wc wr /\ Hid (∀ y ∈ x.fields.take k, Pp.LtF y)) (fun i _ => n2 - (intOf i).toNat)
    case atStart => exact ⟨0, Nat.zero_le _, rfl, Below.refl _ _, hide (by simp)⟩
    case round =>
     obtain ⟨kB, hkB, rfl, hbB, HAB⟩ := hrel; have qB := (hbB.cell (p := ⟨bc, 4, none⟩) (by exact hsC)).trans c4
     have HBB := hide (HBC.out.trans (hbB.mono HBC.out.size)); by_cases hltB : kB < n2
     · obtain ⟨y, hy⟩ : ∃ y, x.fields[kB]? = some y := ⟨x.fields[kB]'(by rw [<- HN2.out]; exact hltB), List.getElem?_eq_getElem _⟩
       obtain ⟨gB, oB, rfl, ys, hys, hcell⟩ := Hv.row_at HF.out hy; have HY := hide hy; have hG := hide (hcell wr HBB.out); obtain rfl : ys = _ := hys.1; clear hcell hys hy; have z0 := hG.out 0 _ rfl; rw [Nat.add_zero] at z0; obtain ⟨T0, hT0⟩ : ∃ S : ByteArray, S = ⟨y.name.toArray⟩ := ⟨_, rfl⟩; rw [<- hT0] at z0; have HT0 : Hid (y.name.length = T0.size) := hide (by rw [hT0]; simp [ByteArray.size])
       clear hT0; have z2 := hG.out 2 _ rfl; obtain ⟨T2, hT2⟩ : ∃ S : ByteArray, S = ⟨y.ty.name.toArray⟩ := ⟨_, rfl⟩; rw [<- hT2] at z2; have HT2 : Hid (y.ty.name.length = T2.size) := hide (by rw [hT2]; simp [ByteArray.size])
       clear hT2; clear hG; have hltB' : (kB : Int) < (n2 : Int) := by omega
       by_cases t0 : 60 < T0.size
       · have t0' : (60 : Int) < (T0.size : Int) := by omega
         go_wp2_with fail; go_ret; exact ⟨Hv.yes _, HBB.out⟩
       have t0' : ¬ (60 : Int) < (T0.size : Int) := by omega
       by_cases t2 : 60 < T2.size
       · have t2' : (60 : Int) < (T2.size : Int) := by omega
         go_wp2_with fail; go_ret; exact ⟨Hv.yes _, HBB.out⟩
       have t2' : ¬ (60 : Int) < (T2.size : Int) := by omega
       have HR := hide (Pp.all_take HAB.out HY.out ⟨by rw [HT0.out]; omega, by rw [HT2.out]; omega⟩)
       clear HY; go_wp2_with fail
       go_roundw
       case rel => exact ⟨kB + 1, by omega, by go_num, hbB, HR⟩
       case measure => simp [intOf]; omega
     · have HEB := hide (Pp.all_end HAB.out (by rw [<- HN2.out]; omega))
       clear HAB; have cB3 := (hbB.cell (p := ⟨bc, 3, none⟩) (by exact hsC)).trans c3
       have cB5 := (hbB.cell (p := ⟨bc, 5, none⟩) (by exact hsC)).trans c5
       have pB2 := (hbB.cell (p := ⟨bp, 0, none⟩) (by show bp < wc.heap.size; omega)).trans pB
       have H0B := hide (H0C.out.trans (hbB.mono H0C.out.size)); have hsB := Nat.lt_of_lt_of_le hsC hbB.size; clear c3 c4 c5 pB H0C HF HBC; obtain ⟨wB, rfl⟩ : ∃ wB : World, wB = wr := ⟨_, rfl⟩; go_wp2_with fail; clear qB hkB hltB hbB
       go_loopw [6] (fun i wr => ∃ k : Nat, k <= n1 /\ i = .int .i64 k /\ Below wB.heap.size wB wr /\ Hid (∀ y ∈ x.ifaces.take k, Pp.LtS y)) (fun i _ => n1 - (intOf i).toNat)
       case atStart => exact ⟨0, Nat.zero_le _, rfl, Below.refl _ _, hide (by simp)⟩
       case round =>
        obtain ⟨kC, hkC, rfl, hbC, HAC⟩ := hrel; have qC := (hbC.cell (p := ⟨bc, 3, none⟩) (by exact hsB)).trans cB3
        have HBC := hide (HBB.out.trans (hbC.mono HBB.out.size)); by_cases hltC : kC < n1
        · obtain ⟨y, hy⟩ : ∃ y, x.ifaces[kC]? = some y := ⟨x.ifaces[kC]'(by rw [<- HN1.out]; exact hltC), List.getElem?_eq_getElem _⟩
          obtain ⟨gC, oC, rfl, ys, hys, hcell⟩ := Hv.row_at HI.out hy; have HY := hide hy; have hG := hide (hcell wr HBC.out); obtain rfl : ys = _ := hys.1; clear hcell hys hy; have z0 := hG.out 0 _ rfl; rw [Nat.add_zero] at z0; obtain ⟨T0, hT0⟩ : ∃ S : ByteArray, S = ⟨y.toArray⟩ := ⟨_, rfl⟩; rw [<- hT0] at z0; have HT0 : Hid (y.length = T0.size) := hide (by rw [hT0]; simp [ByteArray.size])
          clear hT0; rw [Nat.mul_one] at z0; clear hG; have hltC' : (kC : Int) < (n1 : Int) := by omega
          by_cases t0 : 60 < T0.size
          · have t0' : (60 : Int) < (T0.size : Int) := by omega
            go_wp2_with fail; go_ret; exact ⟨Hv.yes _, HBC.out⟩
          have t0' : ¬ (60 : Int) < (T0.size : Int) := by omega
          have HR := hide (Pp.all_take HAC.out HY.out (show Pp.LtS y from by unfold Pp.LtS; rw [HT0.out]; omega))
          clear HY; go_wp2_with fail
          go_roundw
          case rel => exact ⟨kC + 1, by omega, by go_num, hbC, HR⟩
          case measure => simp [intOf]; omega
        · have HEC := hide (Pp.all_end HAC.out (by rw [<- HN1.out]; omega))
          clear HAC; have cC5 := (hbC.cell (p := ⟨bc, 5, none⟩) (by exact hsB)).trans cB5
          have pC2 := (hbC.cell (p := ⟨bp, 0, none⟩) (by show bp < wB.heap.size; omega)).trans pB2
          have H0Cc := hide (H0B.out.trans (hbC.mono H0B.out.size)); have hsCc := Nat.lt_of_lt_of_le hsB hbC.size; clear cB3 cB5 pB2 H0B HI HBB; obtain ⟨wC, rfl⟩ : ∃ wC : World, wC = wr := ⟨_, rfl⟩; go_wp2_with fail; clear qC hkC hltC hbC
          go_loopw [7] (fun i wr => ∃ k : Nat, k <= n3 /\ i = .int .i64 k /\ Below wC.heap.size wC wr /\ Hid (∀ y ∈ x.methods.take k, Pp.LtM y)) (fun i _ => n3 - (intOf i).toNat)
          case atStart => exact ⟨0, Nat.zero_le _, rfl, Below.refl _ _, hide (by simp)⟩
          case round =>
           obtain ⟨kD, hkD, rfl, hbD, HAD⟩ := hrel; have qD := (hbD.cell (p := ⟨bc, 5, none⟩) (by exact hsCc)).trans cC5
           have HBD := hide (HBC.out.trans (hbD.mono HBC.out.size)); by_cases hltD : kD < n3
           · obtain ⟨m, hm⟩ : ∃ m, x.methods[kD]? = some m := ⟨x.methods[kD]'(by rw [<- HN3.out]; exact hltD), List.getElem?_eq_getElem _⟩
             obtain ⟨gD, oD, rfl, ys, hys, hcell⟩ := Hv.row_at HM.out hm; have HMM := hide hm; have hG := hide (hcell wr HBD.out); obtain ⟨vp, vc, vk, rfl, y1, y2, y3, y4⟩ := hys; obtain ⟨da, dc, rfl, _⟩ := y1.len; obtain ⟨ea, ec, rfl, _⟩ := y2.len; obtain ⟨fa', fc', rfl, _⟩ := y3.len; have r0 := hG.out 0 _ rfl; have r1 := hG.out 1 _ rfl; have r2 := hG.out 2 _ rfl; have r3 := hG.out 3 _ rfl; have r4 := hG.out 4 _ rfl; have r5 := hG.out 5 _ rfl; have r6 := hG.out 6 _ rfl; have r7 := hG.out 7 _ rfl; have r8 := hG.out 8 _ rfl; rw [Nat.add_zero] at r0; obtain ⟨m1, hm1⟩ : ∃ n, n = m.params.length := ⟨_, rfl⟩; obtain ⟨m2, hm2⟩ : ∃ n, n = m.code.length := ⟨_, rfl⟩; obtain ⟨m3, hm3⟩ : ∃ n, n = m.catches.length := ⟨_, rfl⟩; have HM1 := hide hm1; have HM2 := hide hm2; have HM3 := hide hm3; rw [<- hm1] at r3 y1; rw [<- hm2] at r7 y2; rw [<- hm3] at r8 y3; have HY1 := hide y1; have HY2 := hide y2; have HY3 := hide y3; obtain ⟨U0, hU0⟩ : ∃ S : ByteArray, S = ⟨m.name.toArray⟩ := ⟨_, rfl⟩; obtain ⟨U5, hU5⟩ : ∃ S : ByteArray, S = ⟨m.ret.name.toArray⟩ := ⟨_, rfl⟩; rw [<- hU0] at r0; rw [<- hU5] at r5; have HU0 : Hid (m.name.length = U0.size) := hide (by rw [hU0]; simp [ByteArray.size])
             have HU5 : Hid (m.ret.name.length = U5.size) := hide (by rw [hU5]; simp [ByteArray.size])
             generalize m.stat = b1 at r1; generalize m.abst = b2 at r2; generalize m.ret.kind = i4 at r4; generalize m.locals = i6 at r6; clear hcell y1 y2 y3 y4 hG hm1 hm2 hm3 hU0 hU5 hm HM; have hltD' : (kD : Int) < (n3 : Int) := by omega
             have HBd : Hid (∀ o, Below w.heap.size w (wr.alloc o)) := hide fun o => HBD.out.alloc HBD.out.size _; by_cases d1 : 60 < U0.size
             · have d1' : (60 : Int) < (U0.size : Int) := by omega
               go_wp2_with fail; go_ret; exact ⟨Hv.yes _, HBd.out _⟩
             have d1' : ¬ (60 : Int) < (U0.size : Int) := by omega
             by_cases d2 : 10 < m1
             · have d2' : (10 : Int) < (m1 : Int) := by omega
               go_wp2_with fail; go_ret; exact ⟨Hv.yes _, HBd.out _⟩
             have d2' : ¬ (10 : Int) < (m1 : Int) := by omega
             by_cases d3 : 60 < m2
             · have d3' : (60 : Int) < (m2 : Int) := by omega
               go_wp2_with fail; go_ret; exact ⟨Hv.yes _, HBd.out _⟩
             have d3' : ¬ (60 : Int) < (m2 : Int) := by omega
             by_cases d4 : 10 < m3
             · have d4' : (10 : Int) < (m3 : Int) := by omega
               go_wp2_with fail; go_ret; exact ⟨Hv.yes _, HBd.out _⟩
             have d4' : ¬ (10 : Int) < (m3 : Int) := by omega
             by_cases d5 : 60 < U5.size
             · have d5' : (60 : Int) < (U5.size : Int) := by omega
               go_wp2_with fail; go_ret; exact ⟨Hv.yes _, HBd.out _⟩
             have d5' : ¬ (60 : Int) < (U5.size : Int) := by omega
             have hc : ∀ j, (wr.alloc (.cells #[.string U0, .bool b1, .bool b2, .slice da m1 dc, .int .i64 i4, .string U5, .int .i64 i6, .slice ea m2 ec, .slice fa' m3 fc'] 39)).cell? ⟨wr.heap.size, j, none⟩ = #[Value.string U0, .bool b1, .bool b2, .slice da m1 dc, .int .i64 i4, .string U5, .int .i64 i6, .slice ea m2 ec, .slice fa' m3 fc'][j]? := fun j => cell_box (heap_alloc_new wr _) j; have j3 := hc 3; have j7 := hc 7; have j8 := hc 8; have pD := ((Below.alloc hbD hbD.size (.cells #[.string U0, .bool b1, .bool b2, .slice da m1 dc, .int .i64 i4, .string U5, .int .i64 i6, .slice ea m2 ec, .slice fa' m3 fc'] 39)).cell (p := ⟨bp, 0, none⟩) (by show bp < wC.heap.size; omega)).trans pC2
             have cD5 := ((Below.alloc hbD hbD.size (.cells #[.string U0, .bool b1, .bool b2, .slice da m1 dc, .int .i64 i4, .string U5, .int .i64 i6, .slice ea m2 ec, .slice fa' m3 fc'] 39)).cell (p := ⟨bc, 5, none⟩) (by exact hsCc)).trans cC5
             have HDD := hide (HBd.out (.cells #[.string U0, .bool b1, .bool b2, .slice da m1 dc, .int .i64 i4, .string U5, .int .i64 i6, .slice ea m2 ec, .slice fa' m3 fc'] 39)); have HCD := hide (hbD.alloc hbD.size (.cells #[.string U0, .bool b1, .bool b2, .slice da m1 dc, .int .i64 i4, .string U5, .int .i64 i6, .slice ea m2 ec, .slice fa' m3 fc'] 39)); have hsD : wr.heap.size < (wr.alloc (.cells #[.string U0, .bool b1, .bool b2, .slice da m1 dc, .int .i64 i4, .string U5, .int .i64 i6, .slice ea m2 ec, .slice fa' m3 fc'] 39)).heap.size := by simp
             go_wp2_with fail; clear hc HBd r0 r1 r2 r3 r4 r5 r6 r7 r8 qD; generalize wr.alloc (.cells #[.string U0, .bool b1, .bool b2, .slice da m1 dc, .int .i64 i4, .string U5, .int .i64 i6, .slice ea m2 ec, .slice fa' m3 fc'] 39) = wm at *
             clear HBD; generalize wr.heap.size = bm at hsD j3 j7 j8 ⊢
             go_loopw [9] (fun i wr => ∃ k : Nat, k <= m2 /\ i = .int .i64 k /\ Below wm.heap.size wm wr /\ Hid (∀ y ∈ m.code.take k, Pp.LtI y)) (fun i _ => m2 - (intOf i).toNat)
             case atStart => exact ⟨0, Nat.zero_le _, rfl, Below.refl _ _, hide (by simp)⟩
             case round =>
              obtain ⟨kE, hkE, rfl, hbE, HAE⟩ := hrel; have qE := (hbE.cell (p := ⟨bm, 7, none⟩) (by exact hsD)).trans j7
              have HBE := hide (HDD.out.trans (hbE.mono HDD.out.size)); by_cases hltE : kE < m2
              · obtain ⟨y, hy⟩ : ∃ y, m.code[kE]? = some y := ⟨m.code[kE]'(by rw [<- HM2.out]; exact hltE), List.getElem?_eq_getElem _⟩
                obtain ⟨gE, oE, rfl, ys, hys, hcell⟩ := Hv.row_at HY2.out hy; have HY := hide hy; have hG := hide (hcell wr HBE.out); obtain rfl : ys = _ := hys.1; clear hcell hys hy; have z2 := hG.out 2 _ rfl; obtain ⟨T2, hT2⟩ : ∃ S : ByteArray, S = ⟨y.a.toArray⟩ := ⟨_, rfl⟩; rw [<- hT2] at z2; have HT2 : Hid (y.a.length = T2.size) := hide (by rw [hT2]; simp [ByteArray.size])
                clear hT2; have z3 := hG.out 3 _ rfl; obtain ⟨T3, hT3⟩ : ∃ S : ByteArray, S = ⟨y.b.toArray⟩ := ⟨_, rfl⟩; rw [<- hT3] at z3; have HT3 : Hid (y.b.length = T3.size) := hide (by rw [hT3]; simp [ByteArray.size])
                clear hT3; clear hG; have hltE' : (kE : Int) < (m2 : Int) := by omega
                by_cases t2 : 60 < T2.size
                · have t2' : (60 : Int) < (T2.size : Int) := by omega
                  go_wp2_with fail; go_ret; exact ⟨Hv.yes _, HBE.out⟩
                have t2' : ¬ (60 : Int) < (T2.size : Int) := by omega
                by_cases t3 : 60 < T3.size
                · have t3' : (60 : Int) < (T3.size : Int) := by omega
                  go_wp2_with fail; go_ret; exact ⟨Hv.yes _, HBE.out⟩
                have t3' : ¬ (60 : Int) < (T3.size : Int) := by omega
                have HR := hide (Pp.all_take HAE.out HY.out ⟨by rw [HT2.out]; omega, by rw [HT3.out]; omega⟩)
                clear HY; go_wp2_with fail
                go_roundw
                case rel => exact ⟨kE + 1, by omega, by go_num, hbE, HR⟩
                case measure => simp [intOf]; omega
              · have HEE := hide (Pp.all_end HAE.out (by rw [<- HM2.out]; omega))
                clear HAE; have jE3 := (hbE.cell (p := ⟨bm, 3, none⟩) (by exact hsD)).trans j3
                have jE8 := (hbE.cell (p := ⟨bm, 8, none⟩) (by exact hsD)).trans j8
                have HCE := hide (HCD.out.trans (hbE.mono HCD.out.size)); have hsE := Nat.lt_of_lt_of_le hsD hbE.size; clear j3 j7 j8 HCD HY2 HDD pD cD5; obtain ⟨wE, rfl⟩ : ∃ wE : World, wE = wr := ⟨_, rfl⟩; go_wp2_with fail; clear qE hkE hltE hbE
                go_loopw [10] (fun i wr => ∃ k : Nat, k <= m1 /\ i = .int .i64 k /\ Below wE.heap.size wE wr /\ Hid (∀ y ∈ m.params.take k, Pp.LtT y)) (fun i _ => m1 - (intOf i).toNat)
                case atStart => exact ⟨0, Nat.zero_le _, rfl, Below.refl _ _, hide (by simp)⟩
                case round =>
                 obtain ⟨kF, hkF, rfl, hbF, HAF⟩ := hrel; have qF := (hbF.cell (p := ⟨bm, 3, none⟩) (by exact hsE)).trans jE3
                 have HBF := hide (HBE.out.trans (hbF.mono HBE.out.size)); by_cases hltF : kF < m1
                 · obtain ⟨y, hy⟩ : ∃ y, m.params[kF]? = some y := ⟨m.params[kF]'(by rw [<- HM1.out]; exact hltF), List.getElem?_eq_getElem _⟩
                   obtain ⟨gF, oF, rfl, ys, hys, hcell⟩ := Hv.row_at HY1.out hy; have HY := hide hy; have hG := hide (hcell wr HBF.out); obtain rfl : ys = _ := hys.1; clear hcell hys hy; have z1 := hG.out 1 _ rfl; obtain ⟨T1, hT1⟩ : ∃ S : ByteArray, S = ⟨y.name.toArray⟩ := ⟨_, rfl⟩; rw [<- hT1] at z1; have HT1 : Hid (y.name.length = T1.size) := hide (by rw [hT1]; simp [ByteArray.size])
                   clear hT1; clear hG; have hltF' : (kF : Int) < (m1 : Int) := by omega
                   by_cases t1 : 60 < T1.size
                   · have t1' : (60 : Int) < (T1.size : Int) := by omega
                     go_wp2_with fail; go_ret; exact ⟨Hv.yes _, HBF.out⟩
                   have t1' : ¬ (60 : Int) < (T1.size : Int) := by omega
                   have HR := hide (Pp.all_take HAF.out HY.out (show Pp.LtT y from by unfold Pp.LtT; rw [HT1.out]; omega))
                   clear HY; go_wp2_with fail
                   go_roundw
                   case rel => exact ⟨kF + 1, by omega, by go_num, hbF, HR⟩
                   case measure => simp [intOf]; omega
                 · have HEF := hide (Pp.all_end HAF.out (by rw [<- HM1.out]; omega))
                   clear HAF; have jF8 := (hbF.cell (p := ⟨bm, 8, none⟩) (by exact hsE)).trans jE8
                   have HCF := hide (HCE.out.trans (hbF.mono HCE.out.size)); have hsF := Nat.lt_of_lt_of_le hsE hbF.size; clear jE3 jE8 HCE HY1 HBE; obtain ⟨wF, rfl⟩ : ∃ wF : World, wF = wr := ⟨_, rfl⟩; go_wp2_with fail; clear qF hkF hltF hbF
                   go_loopw [11] (fun i wr => ∃ k : Nat, k <= m3 /\ i = .int .i64 k /\ Below wF.heap.size wF wr /\ Hid (∀ y ∈ m.catches.take k, Pp.LtK y)) (fun i _ => m3 - (intOf i).toNat)
                   case atStart => exact ⟨0, Nat.zero_le _, rfl, Below.refl _ _, hide (by simp)⟩
                   case round =>
                    obtain ⟨kG, hkG, rfl, hbG, HAG⟩ := hrel; have qG := (hbG.cell (p := ⟨bm, 8, none⟩) (by exact hsF)).trans jF8
                    have HBG := hide (HBF.out.trans (hbG.mono HBF.out.size)); by_cases hltG : kG < m3
                    · obtain ⟨y, hy⟩ : ∃ y, m.catches[kG]? = some y := ⟨m.catches[kG]'(by rw [<- HM3.out]; exact hltG), List.getElem?_eq_getElem _⟩
                      obtain ⟨gG, oG, rfl, ys, hys, hcell⟩ := Hv.row_at HY3.out hy; have HY := hide hy; have hG := hide (hcell wr HBG.out); obtain rfl : ys = _ := hys.1; clear hcell hys hy; have z0 := hG.out 0 _ rfl; rw [Nat.add_zero] at z0; obtain ⟨T0, hT0⟩ : ∃ S : ByteArray, S = ⟨y.name.toArray⟩ := ⟨_, rfl⟩; rw [<- hT0] at z0; have HT0 : Hid (y.name.length = T0.size) := hide (by rw [hT0]; simp [ByteArray.size])
                      clear hT0; clear hG; have hltG' : (kG : Int) < (m3 : Int) := by omega
                      by_cases t0 : 60 < T0.size
                      · have t0' : (60 : Int) < (T0.size : Int) := by omega
                        go_wp2_with fail; go_ret; exact ⟨Hv.yes _, HBG.out⟩
                      have t0' : ¬ (60 : Int) < (T0.size : Int) := by omega
                      have HR := hide (Pp.all_take HAG.out HY.out (show Pp.LtK y from by unfold Pp.LtK; rw [HT0.out]; omega))
                      clear HY; go_wp2_with fail
                      go_roundw
                      case rel => exact ⟨kG + 1, by omega, by go_num, hbG, HR⟩
                      case measure => simp [intOf]; omega
                    · have HEG := hide (Pp.all_end HAG.out (by rw [<- HM3.out]; omega))
                      clear HAG; have HCG := hide (HCF.out.trans (hbG.mono HCF.out.size)); have HOK : Hid (∀ y ∈ x.methods.take (kD + 1), Pp.LtM y) := hide (Pp.all_take HAD.out HMM.out ⟨⟨by rw [HU0.out]; omega, by rw [<- HM1.out]; omega, by rw [<- HM2.out]; omega, by rw [<- HM3.out]; omega, by rw [HU5.out]; omega⟩, HEE.out, HEF.out, HEG.out⟩)
                      go_wp2_with fail
                      go_roundw
                      case rel => exact ⟨kD + 1, by omega, by go_num, HCG.out, HOK⟩
                      case measure => simp [intOf]; omega
           · have HED := hide (Pp.all_end HAD.out (by rw [<- HN3.out]; omega))
             have H0D := hide (H0Cc.out.trans (hbD.mono H0Cc.out.size)); have HOK : Hid (∀ y ∈ cs.take (kA + 1), Pp.LtC y) := hide (Pp.all_take HA.out HX2.out ⟨⟨by rw [<- HN2.out]; omega, by rw [<- HN3.out]; omega, by rw [<- HN1.out]; omega, by rw [HS0.out]; omega, by rw [HS2.out]; omega⟩, HEB.out, HEC.out, HED.out⟩)
             go_wp2_with fail
             go_roundw
             case rel => exact ⟨kA + 1, by omega, by go_num, H0D.out, HOK⟩
             case measure => simp [intOf]; omega
  · have HEA := hide (Pp.all_end HA.out (by rw [<- HL.out]; omega))
    go_wp2_with fail; go_ret; exact ⟨Hv.no ⟨by rw [<- HL.out]; omega, HEA.out⟩, HBA.out⟩
theorem box_two {w w' : World} {c1 c2 : Array Value} {t1 t2 : TypeId} (hb : Below ((w.alloc (.cells c1 t1)).alloc (.cells c2 t2)).heap.size ((w.alloc (.cells c1 t1)).alloc (.cells c2 t2)) w') :
 (∀ k, w'.cell? ⟨w.heap.size, k, none⟩ = c1[k]?) /\ (∀ k, w'.cell? ⟨w.heap.size + 1, k, none⟩ = c2[k]?) /\ Below w.heap.size w w' := by
 refine ⟨fun k => ?_, fun k => ?_, ?_⟩
 · refine cell_box (t := t1) (f := (0, 0)) ?_ k
   rw [hb.block w.heap.size (by simp; omega), Below.heap_alloc _ _ _ (by simp)]
   exact heap_alloc_new w _
 · refine cell_box (t := t2) (f := (0, 0)) ?_ k
   rw [hb.block (w.heap.size + 1) (by simp)]
   have := heap_alloc_new (w.alloc (.cells c1 t1)) (.cells c2 t2)
   simpa using this
 · exact (((Below.refl _ _).alloc (Nat.le_refl _) _).alloc (by simp) _).trans (hb.mono (by simp; omega))
theorem Method_eq (p q : Pp.XMth) (ys1 ys2 : List Value) (w : World) (h1 : MthX w p ys1) (h2 : MthX w q ys2) (b1 : Pp.LtM p) (b2 : Pp.LtM q) :
 Calls Tryz.prog 18 #[.agg ys1.toArray, .agg ys2.toArray] w fun e w' => Eq.Is p q e /\ Below w.heap.size w w' := by
 obtain ⟨vp1, vc1, vk1, rfl, p1, i1, k1, z1⟩ := h1; obtain ⟨vp2, vc2, vk2, rfl, p2, i2, k2, z2⟩ := h2; have c1 := b1.1; have c2 := b2.1; obtain ⟨n1, st1, ab1, ps1, rt1, lo1, co1, ca1⟩ := p; obtain ⟨n2, st2, ab2, ps2, rt2, lo2, co2, ca2⟩ := q; simp only at p1 i1 k1 p2 i2 k2 c1 c2; have HP := hide (fun w' (hb : Below w.heap.size w w') => Types_eq ps1 ps2 vp1 vp2 w' (p1.on hb fun _ _ h => h) (p2.on hb fun _ _ h => h) (by omega) (by omega))
 obtain ⟨pa1, pc1, rfl, _⟩ := p1.len; obtain ⟨pa2, pc2, rfl, _⟩ := p2.len; obtain ⟨ca, cc, rfl, _⟩ := i1.len; obtain ⟨da, dc, rfl, _⟩ := i2.len; obtain ⟨ka, kc, rfl, _⟩ := k1.len; obtain ⟨ea, ec, rfl, _⟩ := k2.len; have HI1 := hide i1; have HI2 := hide i2; have HK1 := hide k1; have HK2 := hide k2; clear p1 p2 i1 i2 k1 k2 z1 z2 b1 b2; simp only [mthXL, List.toArray]; obtain ⟨m1, hm1⟩ : ∃ m, m = co1.length := ⟨_, rfl⟩; obtain ⟨m2, hm2⟩ : ∃ m, m = co2.length := ⟨_, rfl⟩; obtain ⟨j1, hj1⟩ : ∃ m, m = ca1.length := ⟨_, rfl⟩; obtain ⟨j2, hj2⟩ : ∃ m, m = ca2.length := ⟨_, rfl⟩; have HM1 := hide hm1; have HM2 := hide hm2; have HJ1 := hide hj1; have HJ2 := hide hj2; rw [<- hm1] at HI1 ⊢; rw [<- hm2] at HI2 ⊢; rw [<- hj1] at HK1 ⊢; rw [<- hj2] at HK2 ⊢; have l1 : m1 <= 60 := by rw [hm1]; exact c1.2.2.1
 have l2 : m2 <= 60 := by rw [hm2]; exact c2.2.2.1
 have l3 : j1 <= 10 := by rw [hj1]; exact c1.2.2.2.1
 have l4 : j2 <= 10 := by rw [hj2]; exact c2.2.2.2.1
 clear hm1 hm2 hj1 hj2 c1 c2; obtain ⟨kr1, nr1⟩ := rt1; obtain ⟨kr2, nr2⟩ := rt2; simp only; have HB00 : Hid (∀ o o', Below w.heap.size w ((w.alloc o).alloc o')) := hide fun o o' => ((Below.refl _ _).alloc (Nat.le_refl _) _).alloc (by simp) _
 by_cases e1 : n1 = n2
 case neg =>
  have HN := hide (fun e : (⟨n1, st1, ab1, ps1, ⟨kr1, nr1⟩, lo1, co1, ca1⟩ : Pp.XMth) = ⟨n2, st2, ab2, ps2, ⟨kr2, nr2⟩, lo2, co2, ca2⟩ => e1 (congrArg Pp.XMth.name e)); have e1' : (n1 == n2) = false := by simpa using e1
  go_enter Tryz.func18, Tryz.ntmps18; go_wp2_with fail; go_ret; exact ⟨Eq.no HN.out, HB00.out _ _⟩
 subst e1; by_cases e2 : st1 = st2
 case neg =>
  have HN := hide (fun e : (⟨n1, st1, ab1, ps1, ⟨kr1, nr1⟩, lo1, co1, ca1⟩ : Pp.XMth) = ⟨n1, st2, ab2, ps2, ⟨kr2, nr2⟩, lo2, co2, ca2⟩ => e2 (congrArg Pp.XMth.stat e)); have e2' : (st1 == st2) = false := by simpa using e2
  generalize (⟨n1.toArray⟩ : ByteArray) = S1; go_enter Tryz.func18, Tryz.ntmps18; go_wp2_with fail; go_ret; exact ⟨Eq.no HN.out, HB00.out _ _⟩
 subst e2; by_cases e3 : ab1 = ab2
 case neg =>
  have HN := hide (fun e : (⟨n1, st1, ab1, ps1, ⟨kr1, nr1⟩, lo1, co1, ca1⟩ : Pp.XMth) = ⟨n1, st1, ab2, ps2, ⟨kr2, nr2⟩, lo2, co2, ca2⟩ => e3 (congrArg Pp.XMth.abst e)); have e3' : (ab1 == ab2) = false := by simpa using e3
  generalize (⟨n1.toArray⟩ : ByteArray) = S1; go_enter Tryz.func18, Tryz.ntmps18; go_wp2_with fail; go_ret; exact ⟨Eq.no HN.out, HB00.out _ _⟩
 subst e3
 have HNE : Hid (∀ r2 l2 c2 k2 p2, (ps1 ≠ p2 \/ (⟨kr1, nr1⟩ : Pp.Ty) ≠ r2 \/ lo1 ≠ l2 \/ co1 ≠ c2 \/ ca1 ≠ k2) -> (⟨n1, st1, ab1, ps1, ⟨kr1, nr1⟩, lo1, co1, ca1⟩ : Pp.XMth) ≠ ⟨n1, st1, ab1, p2, r2, l2, c2, k2⟩) := hide (fun r2 l2 c2 k2 p2 h e => by
  injection e with _ _ _ g1 g2 g3 g4 g5
  rcases h with h | h | h | h | h
  · exact h g1
  · exact h g2
  · exact h g3
  · exact h g4
  · exact h g5)
 generalize (⟨n1.toArray⟩ : ByteArray) = S1; generalize ps1.length = t1 at *
 generalize ps2.length = t2 at *
 go_enter Tryz.func18, Tryz.ntmps18; go_wp2_with fail; refine (HP.out _ (HB00.out _ _)).mono ?_; rintro e w1 ⟨⟨b, rfl, hb⟩, hb1⟩; obtain ⟨B1, B2, hB⟩ := box_two hb1; have hs1 := hb1.size; simp at hs1; have p4 : w1.cell? ⟨w.heap.size, 4, none⟩ = some (.int .i64 kr1) := B1 4; have p5 : w1.cell? ⟨w.heap.size, 5, none⟩ = some (.string ⟨nr1.toArray⟩) := B1 5; have p6 : w1.cell? ⟨w.heap.size, 6, none⟩ = some (.int .i64 lo1) := B1 6; have p7 : w1.cell? ⟨w.heap.size, 7, none⟩ = some (.slice ca m1 cc) := B1 7; have p8 : w1.cell? ⟨w.heap.size, 8, none⟩ = some (.slice ka j1 kc) := B1 8; have q4 : w1.cell? ⟨w.heap.size + 1, 4, none⟩ = some (.int .i64 kr2) := B2 4; have q5 : w1.cell? ⟨w.heap.size + 1, 5, none⟩ = some (.string ⟨nr2.toArray⟩) := B2 5; have q6 : w1.cell? ⟨w.heap.size + 1, 6, none⟩ = some (.int .i64 lo2) := B2 6; have q7 : w1.cell? ⟨w.heap.size + 1, 7, none⟩ = some (.slice da m2 dc) := B2 7; have q8 : w1.cell? ⟨w.heap.size + 1, 8, none⟩ = some (.slice ea j2 ec) := B2 8; have HB1 := hide hB; clear B1 B2 hb1 HP HB00 hB; cases b with
 | false =>
   have HN := hide (HNE.out ⟨kr2, nr2⟩ lo2 co2 ca2 ps2 (.inl (fun e => by have := hb.2 e; cases this)))
   go_wp2_with fail; go_ret; exact ⟨Eq.no HN.out, HB1.out⟩
 | true =>
   have hps := hb.1 rfl; subst hps; clear hb; by_cases f1 : kr1 = kr2
   case neg =>
    have HN := hide (HNE.out ⟨kr2, nr2⟩ lo2 co2 ca2 ps1 (.inr (.inl (fun e => f1 (congrArg Pp.Ty.kind e))))); have f1' : (kr1 == kr2) = false := by simpa using f1
    go_wp2_with fail; go_ret; exact ⟨Eq.no HN.out, HB1.out⟩
   subst f1; by_cases f2 : nr1 = nr2
   case neg =>
    have HN := hide (HNE.out ⟨kr1, nr2⟩ lo2 co2 ca2 ps1 (.inr (.inl (fun e => f2 (congrArg Pp.Ty.name e))))); have f2' : (nr1 == nr2) = false := by simpa using f2
    go_wp2_with fail; go_ret; exact ⟨Eq.no HN.out, HB1.out⟩
   subst f2; generalize (⟨nr1.toArray⟩ : ByteArray) = S2 at *
   by_cases f3 : lo1 = lo2
   case neg =>
    have HN := hide (HNE.out ⟨kr1, nr1⟩ lo2 co2 ca2 ps1 (.inr (.inr (.inl f3)))); have f3' : (lo1 == lo2) = false := by simpa using f3
    go_wp2_with fail; go_ret; exact ⟨Eq.no HN.out, HB1.out⟩
   subst f3; by_cases f4 : m1 = m2
   case neg =>
    have HN := hide (HNE.out ⟨kr1, nr1⟩ lo1 co2 ca2 ps1 (.inr (.inr (.inr (.inl (fun e => f4 (by rw [HM1.out, HM2.out, e])))))))
    have f4' : ((m1 : Int) == (m2 : Int)) = false := by simp; omega
    go_wp2_with fail; go_ret; exact ⟨Eq.no HN.out, HB1.out⟩
   subst f4; by_cases f5 : j1 = j2
   case neg =>
    have HN := hide (HNE.out ⟨kr1, nr1⟩ lo1 co2 ca2 ps1 (.inr (.inr (.inr (.inr (fun e => f5 (by rw [HJ1.out, HJ2.out, e])))))))
    have f5' : ((j1 : Int) == (j2 : Int)) = false := by simp; omega
    go_wp2_with fail; go_ret; exact ⟨Eq.no HN.out, HB1.out⟩
   subst f5; go_wp2_with fail; clear p4 p5 p6 q4 q5 q6
   go_loopw [5] (fun i wr => ∃ k : Nat, k <= m1 /\ i = .int .i64 k /\ Below w1.heap.size w1 wr /\ Hid (co1.take k = co2.take k)) (fun i _ => m1 - (intOf i).toNat)
   case atStart => exact ⟨0, Nat.zero_le _, rfl, Below.refl _ _, rfl⟩
   case round =>
    obtain ⟨kA, hkA, rfl, hbA, HTA⟩ := hrel; have HWA := hide (HB1.out.trans (hbA.mono HB1.out.size)); have cA := (hbA.cell (p := ⟨w.heap.size, 7, none⟩) (by show w.heap.size < _; omega)).trans p7
    have dA := (hbA.cell (p := ⟨w.heap.size + 1, 7, none⟩) (by show w.heap.size + 1 < _; omega)).trans q7
    have eA := (hbA.cell (p := ⟨w.heap.size, 8, none⟩) (by show w.heap.size < _; omega)).trans p8
    have fA := (hbA.cell (p := ⟨w.heap.size + 1, 8, none⟩) (by show w.heap.size + 1 < _; omega)).trans q8
    by_cases hltA : kA < m1
    · obtain ⟨x, hx⟩ : ∃ x, co1[kA]? = some x := ⟨co1[kA]'(by rw [<- HM1.out]; exact hltA), List.getElem?_eq_getElem _⟩
      obtain ⟨y, hy⟩ : ∃ y, co2[kA]? = some y := ⟨co2[kA]'(by rw [<- HM2.out]; exact hltA), List.getElem?_eq_getElem _⟩
      obtain ⟨g1, o1, rfl, ys1, w1', hc1⟩ := Eq.row_at HI1.out hx; obtain ⟨g2, o2, rfl, ys2, w2', hc2⟩ := Eq.row_at HI2.out hy; obtain rfl : ys1 = _ := w1'.1; obtain rfl : ys2 = _ := w2'.1; have r0 := hc1 wr HWA.out 0 _ rfl; have s0 := hc2 wr HWA.out 0 _ rfl; have r1 := hc1 wr HWA.out 1 _ rfl; have s1 := hc2 wr HWA.out 1 _ rfl; have r2 := hc1 wr HWA.out 2 _ rfl; have s2 := hc2 wr HWA.out 2 _ rfl; have r3 := hc1 wr HWA.out 3 _ rfl; have s3 := hc2 wr HWA.out 3 _ rfl; rw [Nat.add_zero] at r0 s0; have HX := hide hx; have HY := hide hy; clear hc1 hc2 hx hy w1' w2'; have hltA' : (kA : Int) < (m1 : Int) := by omega
      obtain ⟨xo, xn, xa, xb⟩ := x; obtain ⟨yo, yn, ya, yb⟩ := y; simp only at r0 r1 r2 r3 s0 s1 s2 s3; by_cases u : xo = yo
      case neg =>
       have HN := hide (HNE.out ⟨kr1, nr1⟩ lo1 co2 ca2 ps1 (.inr (.inr (.inr (.inl (Eq.ne_at HX.out HY.out (fun e => u (congrArg Pp.XIns.op e)))))))); have u' : (xo == yo) = false := by simpa using u
       go_wp2_with fail
       go_quiet (fail)
       go_wp2_with fail; go_ret; exact ⟨Eq.no HN.out, by first | exact HWA.out | exact below_drewN HWA.out _⟩
      subst u; by_cases u : xn = yn
      case neg =>
       have HN := hide (HNE.out ⟨kr1, nr1⟩ lo1 co2 ca2 ps1 (.inr (.inr (.inr (.inl (Eq.ne_at HX.out HY.out (fun e => u (congrArg Pp.XIns.n e)))))))); have u' : (xn == yn) = false := by simpa using u
       go_wp2_with fail
       go_quiet (fail)
       go_wp2_with fail; go_ret; exact ⟨Eq.no HN.out, by first | exact HWA.out | exact below_drewN HWA.out _⟩
      subst u; by_cases u : xa = ya
      case neg =>
       have HN := hide (HNE.out ⟨kr1, nr1⟩ lo1 co2 ca2 ps1 (.inr (.inr (.inr (.inl (Eq.ne_at HX.out HY.out (fun e => u (congrArg Pp.XIns.a e)))))))); have u' : (xa == ya) = false := by simpa using u
       go_wp2_with fail
       go_quiet (fail)
       go_wp2_with fail; go_ret; exact ⟨Eq.no HN.out, by first | exact HWA.out | exact below_drewN HWA.out _⟩
      subst u; by_cases u : xb = yb
      case neg =>
       have HN := hide (HNE.out ⟨kr1, nr1⟩ lo1 co2 ca2 ps1 (.inr (.inr (.inr (.inl (Eq.ne_at HX.out HY.out (fun e => u (congrArg Pp.XIns.b e)))))))); have u' : (xb == yb) = false := by simpa using u
       go_wp2_with fail
       go_quiet (fail)
       go_wp2_with fail; go_ret; exact ⟨Eq.no HN.out, by first | exact HWA.out | exact below_drewN HWA.out _⟩
      subst u; have HS := hide (Eq.take_step HTA.out HX.out HY.out); go_wp2_with fail
      go_quiet (fail)
      go_wp2_with fail
      go_roundw
      case rel => exact ⟨kA + 1, by omega, by go_num, by first | exact hbA | exact below_drewN hbA _, HS⟩
      case measure => simp [intOf]; omega
    · have HEA := hide (Eq.take_end HTA.out (by rw [<- HM1.out]; omega) (by rw [<- HM2.out]; omega))
      have hsA := hbA.size; obtain ⟨wA, rfl⟩ : ∃ wA : World, wA = wr := ⟨_, rfl⟩; go_wp2_with fail; clear cA dA p7 q7 p8 q8 hkA hltA HTA hbA
      go_loopw [6] (fun i wr => ∃ k : Nat, k <= j1 /\ i = .int .i64 k /\ Below wA.heap.size wA wr /\ Hid (ca1.take k = ca2.take k)) (fun i _ => j1 - (intOf i).toNat)
      case atStart => exact ⟨0, Nat.zero_le _, rfl, Below.refl _ _, rfl⟩
      case round =>
       obtain ⟨kB, hkB, rfl, hbB, HTB⟩ := hrel; have HWB := hide (HWA.out.trans (hbB.mono HWA.out.size)); have cB := (hbB.cell (p := ⟨w.heap.size, 8, none⟩) (by show w.heap.size < _; omega)).trans eA
       have dB := (hbB.cell (p := ⟨w.heap.size + 1, 8, none⟩) (by show w.heap.size + 1 < _; omega)).trans fA
       by_cases hltB : kB < j1
       · obtain ⟨x, hx⟩ : ∃ x, ca1[kB]? = some x := ⟨ca1[kB]'(by rw [<- HJ1.out]; exact hltB), List.getElem?_eq_getElem _⟩
         obtain ⟨y, hy⟩ : ∃ y, ca2[kB]? = some y := ⟨ca2[kB]'(by rw [<- HJ2.out]; exact hltB), List.getElem?_eq_getElem _⟩
         obtain ⟨g1, o1, rfl, ys1, w1', hc1⟩ := Eq.row_at HK1.out hx; obtain ⟨g2, o2, rfl, ys2, w2', hc2⟩ := Eq.row_at HK2.out hy; obtain rfl : ys1 = _ := w1'.1; obtain rfl : ys2 = _ := w2'.1; have r0 := hc1 wr HWB.out 0 _ rfl; have s0 := hc2 wr HWB.out 0 _ rfl; have r1 := hc1 wr HWB.out 1 _ rfl; have s1 := hc2 wr HWB.out 1 _ rfl; have r2 := hc1 wr HWB.out 2 _ rfl; have s2 := hc2 wr HWB.out 2 _ rfl; have r3 := hc1 wr HWB.out 3 _ rfl; have s3 := hc2 wr HWB.out 3 _ rfl; rw [Nat.add_zero] at r0 s0; have HX := hide hx; have HY := hide hy; clear hc1 hc2 hx hy w1' w2'; have hltB' : (kB : Int) < (j1 : Int) := by omega
         obtain ⟨xo, xn, xa, xb⟩ := x; obtain ⟨yo, yn, ya, yb⟩ := y; simp only at r0 r1 r2 r3 s0 s1 s2 s3; by_cases u : xo = yo
         case neg =>
          have HN := hide (HNE.out ⟨kr1, nr1⟩ lo1 co2 ca2 ps1 (.inr (.inr (.inr (.inr (Eq.ne_at HX.out HY.out (fun e => u (congrArg Pp.Ctc.name e)))))))); have u' : (xo == yo) = false := by simpa using u
          go_wp2_with fail
          go_quiet (fail)
          go_wp2_with fail; go_ret; exact ⟨Eq.no HN.out, by first | exact HWB.out | exact below_drewN HWB.out _⟩
         subst u; by_cases u : xn = yn
         case neg =>
          have HN := hide (HNE.out ⟨kr1, nr1⟩ lo1 co2 ca2 ps1 (.inr (.inr (.inr (.inr (Eq.ne_at HX.out HY.out (fun e => u (congrArg Pp.Ctc.lo e)))))))); have u' : (xn == yn) = false := by simpa using u
          go_wp2_with fail
          go_quiet (fail)
          go_wp2_with fail; go_ret; exact ⟨Eq.no HN.out, by first | exact HWB.out | exact below_drewN HWB.out _⟩
         subst u; by_cases u : xa = ya
         case neg =>
          have HN := hide (HNE.out ⟨kr1, nr1⟩ lo1 co2 ca2 ps1 (.inr (.inr (.inr (.inr (Eq.ne_at HX.out HY.out (fun e => u (congrArg Pp.Ctc.hi e)))))))); have u' : (xa == ya) = false := by simpa using u
          go_wp2_with fail
          go_quiet (fail)
          go_wp2_with fail; go_ret; exact ⟨Eq.no HN.out, by first | exact HWB.out | exact below_drewN HWB.out _⟩
         subst u; by_cases u : xb = yb
         case neg =>
          have HN := hide (HNE.out ⟨kr1, nr1⟩ lo1 co2 ca2 ps1 (.inr (.inr (.inr (.inr (Eq.ne_at HX.out HY.out (fun e => u (congrArg Pp.Ctc.pc e)))))))); have u' : (xb == yb) = false := by simpa using u
          go_wp2_with fail
          go_quiet (fail)
          go_wp2_with fail; go_ret; exact ⟨Eq.no HN.out, by first | exact HWB.out | exact below_drewN HWB.out _⟩
         subst u; have HS := hide (Eq.take_step HTB.out HX.out HY.out); go_wp2_with fail
         go_quiet (fail)
         go_wp2_with fail
         go_roundw
         case rel => exact ⟨kB + 1, by omega, by go_num, by first | exact hbB | exact below_drewN hbB _, HS⟩
         case measure => simp [intOf]; omega
       · have HEB := hide (Eq.take_end HTB.out (by rw [<- HJ1.out]; omega) (by rw [<- HJ2.out]; omega))
         have HY : Hid ((⟨n1, st1, ab1, ps1, ⟨kr1, nr1⟩, lo1, co1, ca1⟩ : Pp.XMth) = ⟨n1, st1, ab1, ps1, ⟨kr1, nr1⟩, lo1, co2, ca2⟩) := hide (by rw [HEA.out, HEB.out])
         go_wp2_with fail; go_ret; exact ⟨Eq.yes HY.out, HWB.out⟩
end Go.Proofs.YtjlappamkfjlkaaGreatDoor

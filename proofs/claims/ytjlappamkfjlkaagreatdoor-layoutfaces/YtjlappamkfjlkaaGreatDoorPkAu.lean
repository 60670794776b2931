/- What the laws of this seat lean on: 5 texts. -/
import Derived.Test.YtjlappamkfjlkaaGreatDoorPkAt
import Derived.Deep.RegionHeld3
import Derived.Test.YtjlappamkfjlkaaGreatDoorPkAo
import Derived.Test.YtjlappamkfjlkaaGreatDoorPkAi
set_option maxRecDepth 100000
set_option maxHeartbeats 64000000
set_option linter.unusedVariables false
set_option linter.unusedSimpArgs false
namespace Go.Proofs.YtjlappamkfjlkaaGreatDoor
open Go.RowKit
theorem Method_any (cs : List Pp.XCls) (v : Value) (n nm : Pp.Bs) (w : World) (ht : TabS w) (h : ProgX w v cs) (hl : Pp.Light cs) :
 Calls Tryz.prog 14 #[.agg #[v], .string ⟨n.toArray⟩, .string ⟨nm.toArray⟩] w fun e w' => FoundL w' (Ly.methQ cs n nm) e /\ Below w.heap.size w w' := by
 have HC := hide (fun wx (hb : Below w.heap.size w wx) => tablesOf_any cs v wx (ht.below hb) (h.on hb) hl); obtain ⟨pa, pc, rfl, _⟩ := h.1.len; clear h ht hl; generalize cs.length = m at *
 obtain ⟨wa, hwa⟩ : ∃ wa, wa = (w.alloc (.cells #[.slice pa m pc] 24)).alloc (.cells #[.string ⟨#[]⟩, .bool false, .bool false, .slice none 0 0, .int .i64 0, .string ⟨#[]⟩, .int .i64 0, .slice none 0 0, .slice none 0 0] 39) := ⟨_, rfl⟩; have hx0 := heap_alloc_new w (.cells #[.slice pa m pc] 24); have hb0 := (Below.refl (w.alloc (.cells #[.slice pa m pc] 24)).heap.size (w.alloc (.cells #[.slice pa m pc] 24))).alloc (Nat.le_refl _) (.cells #[.string ⟨#[]⟩, .bool false, .bool false, .slice none 0 0, .int .i64 0, .string ⟨#[]⟩, .int .i64 0, .slice none 0 0, .slice none 0 0] 39); have hx1 := heap_alloc_new (w.alloc (.cells #[.slice pa m pc] 24)) (.cells #[.string ⟨#[]⟩, .bool false, .bool false, .slice none 0 0, .int .i64 0, .string ⟨#[]⟩, .int .i64 0, .slice none 0 0, .slice none 0 0] 39); have HB0 := hide (((Below.refl w.heap.size w).alloc (Nat.le_refl _) (.cells #[.slice pa m pc] 24)).trans (hb0.mono (by simp)))
 have c0 := cell_box ((hb0.block _ (Ow.lt_of_blk hx0)).trans hx0) 0; rw [show (w.alloc (.cells #[.slice pa m pc] 24)).heap.size = w.heap.size + 1 by simp] at hx1
 rw [<- hwa] at hx1 HB0; have HX0 := hide hx1; clear hx0 hb0 hx1; go_enter Tryz.func14, Tryz.ntmps14; go_wp2_with fail; rw [<- hwa] at c0 ⊢; clear hwa; refine (HC.out wa HB0.out).mono ?_; rintro e w1 ⟨vb, rfl, hok, hno, hb1⟩; have HB1 := hide (HB0.out.trans (hb1.mono HB0.out.size)); have HS0 := hide HB0.out.size; have hX1 := (hb1.block _ (Ow.lt_of_blk HX0.out)).trans HX0.out; have HX1 := hide hX1; have HLt := hide (Ow.lt_of_blk HX0.out); clear HC hb1 HB0 c0 HX0 hX1; by_cases h0 : Ly.layE cs = 0
 · obtain ⟨up, bs, w0, he, hg, hnd, hlen, hlow, hr, hst⟩ := hok h0
   have hOk := Ly.netOk he hg hnd hlen; have HCl := hide (tclass_any hnd hlen hOk.len vb n w0 w1 _ hst.row hr)
   have HSl : Hid (∀ k, Ly.classQ cs n = some k -> Ly.methQ cs n nm = Ly.methP (Ly.bnet (Hr.allL cs) up bs) (bs.getD k 0) nm) := hide fun k hk => by
    unfold Ly.methQ Ly.methP; rw [if_pos h0, hk, hg, (Ly.bnet_img up hnd hlen).mt' (Ly.pnet_good he hg) k (Ly.classQ_lt hk).2.1]
   have HSn : Hid (Ly.classQ cs n = none -> Ly.methQ cs n nm = none) := hide fun hk => by unfold Ly.methQ; rw [if_pos h0, hk]
   have HMd : Hid (∀ k, Ly.classQ cs n = some k -> Calls Tryz.prog 43 #[.pointer (some ⟨bs.getD k 0, 0, none⟩), .string ⟨nm.toArray⟩] w1 _) := hide fun k hk => method_any _ hOk.good hOk.small w0 (bs.getD k 0) ((Ly.bnet_img up hnd hlen).mk_T (Ly.classQ_lt hk).2.1) nm w1 _ hr; have HKd : Hid (∀ k, Ly.classQ cs n = some k -> ∀ o, Ly.methP (Ly.bnet (Hr.allL cs) up bs) (bs.getD k 0) nm = some o -> ∀ t ∈ o.2.params, t.kind ≠ 0) := hide fun k hk o ho => Ly.meth_kinds he hg hnd hlen ((Ly.bnet_img up hnd hlen).mk_T (Ly.classQ_lt hk).2.1) ho; have HLo : Hid (∀ k, k ∈ bs -> wa.heap.size <= k) := hide fun k hk => Nat.le_trans hlow (hr.2.2.1 k hk).1; rw [h0]; obtain ⟨ba, bc, rfl, _⟩ := hst.row.len; clear hok hno he hg hnd hlen hlow hr hst hOk h0; generalize bs.length = q at *
   go_wp2_with fail; refine HCl.out.mono ?_; clear HCl; rintro e w2 ⟨rfl, rfl⟩; cases hq : Ly.classQ cs n with
   | none =>
     have HSS := hide (HSn.out hq); clear HSl HSn HMd HLo HKd hq; have f0 := Ow.fzl_blk HX1.out 0; have f1 := Ow.fzl_blk HX1.out 1; have f2 := Ow.fzl_blk HX1.out 2; have f3 := Ow.fzl_blk HX1.out 3; have f4 := Ow.fzl_blk HX1.out 4; have f5 := Ow.fzl_blk HX1.out 5; have f6 := Ow.fzl_blk HX1.out 6; have f7 := Ow.fzl_blk HX1.out 7; have f8 := Ow.fzl_blk HX1.out 8; have q0 := cell_box HX1.out 0; have q1 := cell_box HX1.out 1; have q2 := cell_box HX1.out 2; have q3 := cell_box HX1.out 3; have q4 := cell_box HX1.out 4; have q5 := cell_box HX1.out 5; have q6 := cell_box HX1.out 6; have q7 := cell_box HX1.out 7; have q8 := cell_box HX1.out 8; go_wp2_with fail; refine bodyPost_ret (v := .tuple #[.string ⟨#[]⟩, .agg zeroM.toArray, .bool false]) (by simp [results, Tryz.results14, go_sem, zeroM, *]) rfl ?_
     refine ⟨FoundL.no HSS.out, ?_⟩
     iterate 9 refine put_up ?_ (Nat.le_succ _) _ _
     exact HB1.out
   | some k =>
     have hs := HSl.out k hq; have HSS := hide hs; have HM := hide (HMd.out k hq); have HK := hide (HKd.out k hq); clear HSl HSn HMd HKd hq hs; simp only [Option.map_some, Option.isSome_some]; generalize bs.getD k 0 = b at *
     go_wp2_with fail; refine HM.out.mono ?_; clear HM; rintro e w3 ⟨hf3, hr3, hx3⟩; obtain ⟨ms, ⟨n1, b2, b3, a4, m4, c4, k5, s6, l7, a8, m8, c8, a9, m9, c9, rfl⟩, rfl, h1, h2⟩ := hf3.open; rw [<- HSS.out] at h1 h2 HK ⊢; obtain ⟨OW, hOW⟩ : ∃ q : ByteArray, q = ⟨(((Ly.methQ cs n nm).map (·.1)).getD []).toArray⟩ := ⟨_, rfl⟩; obtain ⟨y, hy⟩ : ∃ q, q = (Ly.methQ cs n nm).isSome := ⟨_, rfl⟩; rw [<- hOW, <- hy]; have hX3 := (hx3.blk _ (Ow.lt_of_blk HX1.out) (fun hk => absurd (HLo.out _ hk) (Nat.not_le.2 HLt.out))).trans HX1.out; have hA : Below w3.heap.size w3 (w3.alloc (.cells #[.string OW, .string n1, .bool b2, .bool b3, .slice a4 m4 c4, .int .i64 k5, .string s6, .int .i64 l7, .slice a8 m8 c8, .slice a9 m9 c9] 106)) := (Below.refl _ _).alloc (Nat.le_refl _) _; have HX4 := hide ((hA.block _ (Ow.lt_of_blk hX3)).trans hX3); have HM4 := hide (fun o ho => (h1 o ho).on (hr3.1.trans (hA.mono hr3.1.size))); have HZ := hide h2; have hB3 := below_fx HB1.out hx3 fun k hk => Nat.le_trans HS0.out (HLo.out k hk); have HB4 := hide (hB3.trans (hA.mono hB3.size)); have HOW := hide hOW; have HY := hide hy; have hnb := heap_alloc_new w3 (.cells #[.string OW, .string n1, .bool b2, .bool b3, .slice a4 m4 c4, .int .i64 k5, .string s6, .int .i64 l7, .slice a8 m8 c8, .slice a9 m9 c9] 106); have HNb := hide hnb; have HNe := hide (Nat.ne_of_gt (Ow.lt_of_blk hX3)); have hnb1 : w3.heap.size < (w3.alloc (.cells #[.string OW, .string n1, .bool b2, .bool b3, .slice a4 m4 c4, .int .i64 k5, .string s6, .int .i64 l7, .slice a8 m8 c8, .slice a9 m9 c9] 106)).heap.size := by simp
     have HNs := hide hnb1; clear hf3 hr3 hx3 h1 h2 hA hX3 hB3 hOW hy hnb1 HB1 HS0 HLo HLt HX1; have g0 := cell_box hnb 0; have g1 := cell_box hnb 1; have g2 := cell_box hnb 2; have g3 := cell_box hnb 3; have g4 := cell_box hnb 4; have g5 := cell_box hnb 5; have g6 := cell_box hnb 6; have g7 := cell_box hnb 7; have g8 := cell_box hnb 8; have g9 := cell_box hnb 9; clear hnb; go_wp2_with fail; clear g0 g1 g2 g3 g4 g5 g6 g7 g8 g9; generalize w3.alloc (.cells #[.string OW, .string n1, .bool b2, .bool b3, .slice a4 m4 c4, .int .i64 k5, .string s6, .int .i64 l7, .slice a8 m8 c8, .slice a9 m9 c9] 106) = w4 at *
     have hx4 : w4.heap[w.heap.size + 1]? = some (.cells #[.string ⟨#[]⟩, .bool false, .bool false, .slice none 0 0, .int .i64 0, .string ⟨#[]⟩, .int .i64 0, .slice none 0 0, .slice none 0 0] 39 (0, 0)) := HX4.out; have HP0 : Hid (∀ wz : World, wz.heap[w3.heap.size]? = some (.cells #[.string OW, .string n1, .bool b2, .bool b3, .slice a4 m4 c4, .int .i64 k5, .string s6, .int .i64 l7, .slice a8 m8 c8, .slice a9 m9 c9] 106 (0, 0)) -> (wz).cell? ⟨w3.heap.size, 0, none⟩ = some (.string OW) /\ (wz).cell? ⟨w3.heap.size, 1, none⟩ = some (.string n1) /\ (wz).cell? ⟨w3.heap.size, 2, none⟩ = some (.bool b2) /\ (wz).cell? ⟨w3.heap.size, 3, none⟩ = some (.bool b3) /\ (wz).cell? ⟨w3.heap.size, 4, none⟩ = some (.slice a4 m4 c4) /\ (wz).cell? ⟨w3.heap.size, 5, none⟩ = some (.int .i64 k5) /\ (wz).cell? ⟨w3.heap.size, 6, none⟩ = some (.string s6) /\ (wz).cell? ⟨w3.heap.size, 7, none⟩ = some (.int .i64 l7) /\ (wz).cell? ⟨w3.heap.size, 8, none⟩ = some (.slice a8 m8 c8) /\ (wz).cell? ⟨w3.heap.size, 9, none⟩ = some (.slice a9 m9 c9)) := hide fun wz h => ⟨cell_box h 0, cell_box h 1, cell_box h 2, cell_box h 3, cell_box h 4, cell_box h 5, cell_box h 6, cell_box h 7, cell_box h 8, cell_box h 9⟩; have HP0d : Hid (∀ wz : World, wz.heap[w3.heap.size]? = some (.cells #[.string OW, .string n1, .bool b2, .bool b3, .slice a4 m4 c4, .int .i64 k5, .string s6, .int .i64 l7, .slice a8 m8 c8, .slice a9 m9 c9] 106 (0, 0)) -> (wz.drew).cell? ⟨w3.heap.size, 0, none⟩ = some (.string OW) /\ (wz.drew).cell? ⟨w3.heap.size, 1, none⟩ = some (.string n1) /\ (wz.drew).cell? ⟨w3.heap.size, 2, none⟩ = some (.bool b2) /\ (wz.drew).cell? ⟨w3.heap.size, 3, none⟩ = some (.bool b3) /\ (wz.drew).cell? ⟨w3.heap.size, 4, none⟩ = some (.slice a4 m4 c4) /\ (wz.drew).cell? ⟨w3.heap.size, 5, none⟩ = some (.int .i64 k5) /\ (wz.drew).cell? ⟨w3.heap.size, 6, none⟩ = some (.string s6) /\ (wz.drew).cell? ⟨w3.heap.size, 7, none⟩ = some (.int .i64 l7) /\ (wz.drew).cell? ⟨w3.heap.size, 8, none⟩ = some (.slice a8 m8 c8) /\ (wz.drew).cell? ⟨w3.heap.size, 9, none⟩ = some (.slice a9 m9 c9)) := hide fun wz h => ⟨cell_box (w := wz.drew) h 0, cell_box (w := wz.drew) h 1, cell_box (w := wz.drew) h 2, cell_box (w := wz.drew) h 3, cell_box (w := wz.drew) h 4, cell_box (w := wz.drew) h 5, cell_box (w := wz.drew) h 6, cell_box (w := wz.drew) h 7, cell_box (w := wz.drew) h 8, cell_box (w := wz.drew) h 9⟩; have HP1 := hide (HP0d.out w4 HNb.out)
     have HFF : Hid (Fx (fun k => k = w.heap.size + 1) w4 (((((((((w4.setCell ⟨w.heap.size + 1, 0, none⟩ (.string n1)).setCell ⟨w.heap.size + 1, 1, none⟩ (.bool b2)).setCell ⟨w.heap.size + 1, 2, none⟩ (.bool b3)).setCell ⟨w.heap.size + 1, 3, none⟩ (.slice a4 m4 c4)).setCell ⟨w.heap.size + 1, 4, none⟩ (.int .i64 k5)).setCell ⟨w.heap.size + 1, 5, none⟩ (.string s6)).setCell ⟨w.heap.size + 1, 6, none⟩ (.int .i64 l7)).setCell ⟨w.heap.size + 1, 7, none⟩ (.slice a8 m8 c8)).setCell ⟨w.heap.size + 1, 8, none⟩ (.slice a9 m9 c9))) := hide (by
      iterate 9 refine fx_put (S := fun k => k = w.heap.size + 1) ?_ rfl _ _
      exact Fx.refl _ _)
     have hh2 := (HFF.out.blk w3.heap.size HNs.out HNe.out).trans HNb.out; have HP2 := hide (HP0.out (((((((((w4.setCell ⟨w.heap.size + 1, 0, none⟩ (.string n1)).setCell ⟨w.heap.size + 1, 1, none⟩ (.bool b2)).setCell ⟨w.heap.size + 1, 2, none⟩ (.bool b3)).setCell ⟨w.heap.size + 1, 3, none⟩ (.slice a4 m4 c4)).setCell ⟨w.heap.size + 1, 4, none⟩ (.int .i64 k5)).setCell ⟨w.heap.size + 1, 5, none⟩ (.string s6)).setCell ⟨w.heap.size + 1, 6, none⟩ (.int .i64 l7)).setCell ⟨w.heap.size + 1, 7, none⟩ (.slice a8 m8 c8)).setCell ⟨w.heap.size + 1, 8, none⟩ (.slice a9 m9 c9)) hh2); have HP3 := hide (HP0d.out (((((((((w4.setCell ⟨w.heap.size + 1, 0, none⟩ (.string n1)).setCell ⟨w.heap.size + 1, 1, none⟩ (.bool b2)).setCell ⟨w.heap.size + 1, 2, none⟩ (.bool b3)).setCell ⟨w.heap.size + 1, 3, none⟩ (.slice a4 m4 c4)).setCell ⟨w.heap.size + 1, 4, none⟩ (.int .i64 k5)).setCell ⟨w.heap.size + 1, 5, none⟩ (.string s6)).setCell ⟨w.heap.size + 1, 6, none⟩ (.int .i64 l7)).setCell ⟨w.heap.size + 1, 7, none⟩ (.slice a8 m8 c8)).setCell ⟨w.heap.size + 1, 8, none⟩ (.slice a9 m9 c9)) hh2); clear hh2; have f0 := Ow.fzl_blk hx4 0; have f1 := Ow.fzl_blk hx4 1; have f2 := Ow.fzl_blk hx4 2; have f3 := Ow.fzl_blk hx4 3; have f4 := Ow.fzl_blk hx4 4; have f5 := Ow.fzl_blk hx4 5; have f6 := Ow.fzl_blk hx4 6; have f7 := Ow.fzl_blk hx4 7; have f8 := Ow.fzl_blk hx4 8; have q0 : w4.cell? ⟨w.heap.size + 1, 0, none⟩ = some (.string ⟨#[]⟩) := cell_box hx4 0; have q1 : w4.cell? ⟨w.heap.size + 1, 1, none⟩ = some (.bool false) := cell_box hx4 1; have q2 : w4.cell? ⟨w.heap.size + 1, 2, none⟩ = some (.bool false) := cell_box hx4 2; have q3 : w4.cell? ⟨w.heap.size + 1, 3, none⟩ = some (.slice none 0 0) := cell_box hx4 3; have q4 : w4.cell? ⟨w.heap.size + 1, 4, none⟩ = some (.int .i64 0) := cell_box hx4 4; have q5 : w4.cell? ⟨w.heap.size + 1, 5, none⟩ = some (.string ⟨#[]⟩) := cell_box hx4 5; have q6 : w4.cell? ⟨w.heap.size + 1, 6, none⟩ = some (.int .i64 0) := cell_box hx4 6; have q7 : w4.cell? ⟨w.heap.size + 1, 7, none⟩ = some (.slice none 0 0) := cell_box hx4 7; have q8 : w4.cell? ⟨w.heap.size + 1, 8, none⟩ = some (.slice none 0 0) := cell_box hx4 8; clear hx4
     go_region_held3 (fun wz => (wz).cell? ⟨w3.heap.size, 0, none⟩ = some (.string OW) /\ (wz).cell? ⟨w3.heap.size, 1, none⟩ = some (.string n1) /\ (wz).cell? ⟨w3.heap.size, 2, none⟩ = some (.bool b2) /\ (wz).cell? ⟨w3.heap.size, 3, none⟩ = some (.bool b3) /\ (wz).cell? ⟨w3.heap.size, 4, none⟩ = some (.slice a4 m4 c4) /\ (wz).cell? ⟨w3.heap.size, 5, none⟩ = some (.int .i64 k5) /\ (wz).cell? ⟨w3.heap.size, 6, none⟩ = some (.string s6) /\ (wz).cell? ⟨w3.heap.size, 7, none⟩ = some (.int .i64 l7) /\ (wz).cell? ⟨w3.heap.size, 8, none⟩ = some (.slice a8 m8 c8) /\ (wz).cell? ⟨w3.heap.size, 9, none⟩ = some (.slice a9 m9 c9)) (first | with_reducible exact HP1.out | with_reducible exact HP2.out | with_reducible exact HP3.out | (trace_state; fail))
      (first | fail)
     all_goals
      go_wp2_with fail; refine bodyPost_ret (v := .tuple #[.string OW, .agg #[.string n1, .bool b2, .bool b3, .slice a4 m4 c4, .int .i64 k5, .string s6, .int .i64 l7, .slice a8 m8 c8, .slice a9 m9 c9], .bool y]) (by simp [results, Tryz.results14, go_sem, *]) rfl ?_
      refine ⟨⟨[.string n1, .bool b2, .bool b3, .slice a4 m4 c4, .int .i64 k5, .string s6, .int .i64 l7, .slice a8 m8 c8, .slice a9 m9 c9], ⟨n1, b2, b3, a4, m4, c4, k5, s6, l7, a8, m8, c8, a9, m9, c9, rfl⟩, by rw [HOW.out, HY.out], fun o ho => mth_off (b0 := w.heap.size + 1) HX4.out (HFF.out.trans (Fx.below (Below.drew (Below.refl _ _)))) (HM4.out o ho) (HK.out o ho), HZ.out⟩, Below.drew ?_⟩
      iterate 9 refine put_up ?_ (Nat.le_succ _) _ _
      exact HB4.out
 · have hS : Ly.methQ cs n nm = none := by unfold Ly.methQ; rw [if_neg h0]
   have hv := hno h0; subst hv; have h0' : (Ly.layE cs != 0) = true := by simpa using h0
   have HSS := hide hS; clear hok hno hS HS0; have f0 := Ow.fzl_blk HX1.out 0; have f1 := Ow.fzl_blk HX1.out 1; have f2 := Ow.fzl_blk HX1.out 2; have f3 := Ow.fzl_blk HX1.out 3; have f4 := Ow.fzl_blk HX1.out 4; have f5 := Ow.fzl_blk HX1.out 5; have f6 := Ow.fzl_blk HX1.out 6; have f7 := Ow.fzl_blk HX1.out 7; have f8 := Ow.fzl_blk HX1.out 8; have q0 := cell_box HX1.out 0; have q1 := cell_box HX1.out 1; have q2 := cell_box HX1.out 2; have q3 := cell_box HX1.out 3; have q4 := cell_box HX1.out 4; have q5 := cell_box HX1.out 5; have q6 := cell_box HX1.out 6; have q7 := cell_box HX1.out 7; have q8 := cell_box HX1.out 8; go_wp2_with fail; refine bodyPost_ret (v := .tuple #[.string ⟨#[]⟩, .agg zeroM.toArray, .bool false]) (by simp [results, Tryz.results14, go_sem, zeroM, *]) rfl ?_
   refine ⟨FoundL.no HSS.out, ?_⟩
   iterate 9 refine put_up ?_ (Nat.le_succ _) _ _
   exact HB1.out
namespace Ly
open Pp Hr
def sigP (N : Net) (b : Nat) (nm : Bs) : Option XMth := match methP N b nm with
 | some o => some o.2
 | none => (N.ab b).findSome? fun i => (methP N i nm).map (·.2)
theorem sig_some {N : Net} {b : Nat} {nm : Bs} {o : Bs × XMth} (h : methP N b nm = some o) : sigP N b nm = some o.2 := by unfold sigP; rw [h]
theorem sig_none {N : Net} {b : Nat} {nm : Bs} (h : methP N b nm = none) : sigP N b nm = (N.ab b).findSome? fun i => (methP N i nm).map (·.2) := by unfold sigP; rw [h]
theorem fs_step {α β : Type} {f : α -> Option β} {l : List α} {k : Nat} {x : α} (h : (l.take k).findSome? f = none) (hx : l[k]? = some x) (hf : f x = none) : (l.take (k + 1)).findSome? f = none := by
 rw [List.take_add_one, hx, List.findSome?_append, h]; simp [hf]
theorem fs_stop {α β : Type} {f : α -> Option β} {l : List α} {k : Nat} {x : α} (h : (l.take k).findSome? f = none) (hx : l[k]? = some x) {y : β} (hf : f x = some y) : l.findSome? f = some y := by
 have hlt := (List.getElem?_eq_some_iff.1 hx).1; have h1 : l[k] = x := by simpa [List.getElem?_eq_getElem hlt] using hx
 rw [<- List.take_append_drop k l, List.findSome?_append, h, List.drop_eq_getElem_cons hlt, h1]; simp [hf]
theorem fs_end {α β : Type} {f : α -> Option β} {l : List α} {k : Nat} (h : (l.take k).findSome? f = none) (hk : l.length <= k) : l.findSome? f = none := by rwa [List.take_of_length_le hk] at h
end Ly
def FoundS (w0 : World) (r : Option Pp.XMth) (e : Ending) : Prop := ∃ ms, Mv ms /\ e = .returned (.tuple #[.agg ms.toArray, .bool r.isSome]) /\ (∀ o, r = some o -> MthX w0 o ms) /\ (r = none -> ms = zeroM)
theorem FoundS.no {w' : World} {r : Option Pp.XMth} (h : r = none) : FoundS w' r (.returned (.tuple #[.agg zeroM.toArray, .bool false])) := by
 subst h; exact ⟨zeroM, Mv.zero, rfl, (fun o e => by cases e), fun _ => rfl⟩
theorem FoundS.yes {w' : World} {r : Option Pp.XMth} {o : Pp.XMth} {ms : List Value} (h : r = some o) (hm : MthX w' o ms) : FoundS w' r (.returned (.tuple #[.agg ms.toArray, .bool true])) := by
 subst h; exact ⟨ms, Mv.of hm, rfl, (fun o' e => by cases e; exact hm), fun e => by cases e⟩
theorem signature_any (N : Net) (hG : N.Good) (hN : N.Small) (w0 : World) (x : Nat) (hT : N.T x) (n : Pp.Bs) (w : World) (A : Nat -> Prop) (h : Rdy N w0 w A) :
 Calls Tryz.prog 45 #[.pointer (some ⟨x, 0, none⟩), .string ⟨n.toArray⟩] w fun e w' => FoundS w0 (Ly.sigP N x n) e /\ Rdy N w0 w' A /\ Fx N.T w w' := by
 have HMd := hide (fun (y : Nat) (hy : N.T y) (wx : World) (hx : Rdy N w0 wx (fun k => A k \/ k = w.heap.size)) => method_any N hG hN w0 y hy n wx _ hx); have HMk := hide (fun (wx : World) (hx : Rdy N w0 wx (fun k => A k \/ k = w.heap.size)) => made_rdy N hG hN w0 x hT wx _ hx); have HAb : Hid (∀ z ∈ N.ab x, N.T z) := hide fun z hz => Ly.abF_T hG _ x hT z hz; have HAl : Hid ((N.ab x).length <= 1000) := hide (Nat.le_trans (hN.ab x hT) (by decide))
 have HTx := hide hT; have HX0 := hide (heap_alloc_new w (.cells #[.string ⟨#[]⟩, .bool false, .bool false, .slice none 0 0, .int .i64 0, .string ⟨#[]⟩, .int .i64 0, .slice none 0 0, .slice none 0 0] 39)); have HR0 := hide (h.alloc (.cells #[.string ⟨#[]⟩, .bool false, .bool false, .slice none 0 0, .int .i64 0, .string ⟨#[]⟩, .int .i64 0, .slice none 0 0, .slice none 0 0] 39)); have HFa := hide (Fx.alloc (fun k => k = w.heap.size) w (.cells #[.string ⟨#[]⟩, .bool false, .bool false, .slice none 0 0, .int .i64 0, .string ⟨#[]⟩, .int .i64 0, .slice none 0 0, .slice none 0 0] 39)); have HnT : Hid (∀ k, N.T k -> k ≠ w.heap.size) := hide fun k hk e => by have := (h.2.2.1 k hk).2; omega
 have HLs : Hid (∀ k, k < w.heap.size -> k ≠ w.heap.size) := hide fun k hk e => by omega
 clear h hT hG hN; go_enter Tryz.func45, Tryz.ntmps45; go_wp2_with fail; generalize w.alloc (.cells #[.string ⟨#[]⟩, .bool false, .bool false, .slice none 0 0, .int .i64 0, .string ⟨#[]⟩, .int .i64 0, .slice none 0 0, .slice none 0 0] 39) = wa at *
 have HEnd : Hid (∀ w2 w3, Rdy N w0 w2 (fun k => A k \/ k = w.heap.size) -> Fx N.T wa w2 -> Fx (fun k => k = w.heap.size) w2 w3 -> Rdy N w0 w3 A /\ Fx N.T w w3) := hide fun w2 w3 hr2 hf2 hf => by
  refine ⟨(hr2.put hf fun k hk => .inr hk).less fun k hk => .inl hk, HFa.out.bel.trans (hf2.bel.trans hf.bel), fun k hk hn => ?_⟩; have h1 := HFa.out.blk k hk (HLs.out k hk); have h2 := hf2.blk k (Nat.lt_of_lt_of_le hk HFa.out.size) hn; have h3 := hf.blk k (Nat.lt_of_lt_of_le (Nat.lt_of_lt_of_le hk HFa.out.size) hf2.size) (HLs.out k hk); exact h3.trans (h2.trans h1)
 have HM0 := hide (HMd.out x HTx.out wa HR0.out); refine HM0.out.mono ?_; rintro e w1 ⟨hf1, hr1, hx1⟩; clear HM0; obtain ⟨ms, ⟨n1, b2, b3, a4, m4, c4, k5, s6, l7, a8, m8, c8, a9, m9, c9, rfl⟩, rfl, h1, h2⟩ := hf1.open; cases hm : Ly.methP N x n with
 | some o =>
   rw [hm] at h1; have HMx := hide (h1 o rfl); obtain ⟨OW, hOW⟩ : ∃ q : ByteArray, q = ⟨((((some o : Option (Pp.Bs × Pp.XMth))).map (·.1)).getD []).toArray⟩ := ⟨_, rfl⟩; rw [<- hOW]; simp only [Option.isSome_some]; have hX1 := (hx1.blk _ (Ow.lt_of_blk HX0.out) (fun hk => HnT.out _ hk rfl)).trans HX0.out; have hA : Below w1.heap.size w1 (w1.alloc (.cells #[.string OW, .string n1, .bool b2, .bool b3, .slice a4 m4 c4, .int .i64 k5, .string s6, .int .i64 l7, .slice a8 m8 c8, .slice a9 m9 c9] 106)) := (Below.refl _ _).alloc (Nat.le_refl _) _; have HX2 := hide ((hA.block _ (Ow.lt_of_blk hX1)).trans hX1); have hnb := heap_alloc_new w1 (.cells #[.string OW, .string n1, .bool b2, .bool b3, .slice a4 m4 c4, .int .i64 k5, .string s6, .int .i64 l7, .slice a8 m8 c8, .slice a9 m9 c9] 106); have HE2 := hide (fun w3 hf => HEnd.out (w1.alloc (.cells #[.string OW, .string n1, .bool b2, .bool b3, .slice a4 m4 c4, .int .i64 k5, .string s6, .int .i64 l7, .slice a8 m8 c8, .slice a9 m9 c9] 106)) w3 (hr1.on hA) ((Fx.refl N.T wa).trans (hx1.trans (Fx.below hA))) hf); have HQ := hide (Ly.sig_some hm); clear hf1 hr1 hx1 h1 h2 hX1 hA HMd HMk HAb HAl HTx HX0 HR0 HFa HnT HLs HEnd hm hOW; have g0 := cell_box hnb 0; have g1 := cell_box hnb 1; have g2 := cell_box hnb 2; have g3 := cell_box hnb 3; have g4 := cell_box hnb 4; have g5 := cell_box hnb 5; have g6 := cell_box hnb 6; have g7 := cell_box hnb 7; have g8 := cell_box hnb 8; have g9 := cell_box hnb 9; clear hnb; have f0 := Ow.fzl_blk HX2.out 0; have f1 := Ow.fzl_blk HX2.out 1; have f2 := Ow.fzl_blk HX2.out 2; have f3 := Ow.fzl_blk HX2.out 3; have f4 := Ow.fzl_blk HX2.out 4; have f5 := Ow.fzl_blk HX2.out 5; have f6 := Ow.fzl_blk HX2.out 6; have f7 := Ow.fzl_blk HX2.out 7; have f8 := Ow.fzl_blk HX2.out 8; have q0 := cell_box HX2.out 0; have q1 := cell_box HX2.out 1; have q2 := cell_box HX2.out 2; have q3 := cell_box HX2.out 3; have q4 := cell_box HX2.out 4; have q5 := cell_box HX2.out 5; have q6 := cell_box HX2.out 6; have q7 := cell_box HX2.out 7; have q8 := cell_box HX2.out 8; go_wp2_with fail; refine bodyPost_ret (v := .tuple #[.agg #[.string n1, .bool b2, .bool b3, .slice a4 m4 c4, .int .i64 k5, .string s6, .int .i64 l7, .slice a8 m8 c8, .slice a9 m9 c9], .bool true]) (by simp [results, Tryz.results45, go_sem, zeroM, *]) rfl ?_
   refine ⟨FoundS.yes HQ.out HMx.out, HE2.out _ ?_⟩
   iterate 9 refine fx_put (S := fun k => k = w.heap.size) ?_ rfl _ _
   exact Fx.refl _ _
 | none =>
   rw [hm] at h2; have h3 := h2 rfl; simp only [zeroM, List.cons.injEq, Value.string.injEq, Value.bool.injEq, Value.slice.injEq, Value.int.injEq] at h3; obtain ⟨rfl, rfl, rfl, ⟨rfl, rfl, rfl⟩, ⟨_, rfl⟩, rfl, ⟨_, rfl⟩, ⟨rfl, rfl, rfl⟩, ⟨rfl, rfl, rfl⟩, _⟩ := h3; have HQ := hide (Ly.sig_none hm); simp only [Option.isSome_none, Option.map_none, Option.getD_none, List.toArray]; have hX1 := (hx1.blk _ (Ow.lt_of_blk HX0.out) (fun hk => HnT.out _ hk rfl)).trans HX0.out; have hA : Below w1.heap.size w1 (w1.alloc (.cells #[.string ⟨#[]⟩, .string ⟨#[]⟩, .bool false, .bool false, .slice none 0 0, .int .i64 0, .string ⟨#[]⟩, .int .i64 0, .slice none 0 0, .slice none 0 0] 106)) := (Below.refl _ _).alloc (Nat.le_refl _) _; have HX2 := hide ((hA.block _ (Ow.lt_of_blk hX1)).trans hX1); have HR2 := hide (hr1.on hA); have HF2 := hide (hx1.trans (Fx.below hA)); have HM2 := hide (HMk.out _ HR2.out); clear hf1 hr1 hx1 h1 h2 hX1 hA HMk HX0 HR0 HFa HLs hm; go_wp2_with fail; generalize w1.alloc (.cells #[.string ⟨#[]⟩, .string ⟨#[]⟩, .bool false, .bool false, .slice none 0 0, .int .i64 0, .string ⟨#[]⟩, .int .i64 0, .slice none 0 0, .slice none 0 0] 106) = w2 at *
   refine HM2.out.mono ?_; rintro e w3 ⟨rfl, hr3, hx3, cs3, hcs3, vs, vm, va, _, _, e13, _, _, hs13⟩; have HR3 := hide hr3; have HF3 := hide (HF2.out.trans hx3); have HX3 := hide ((hx3.blk _ (Ow.lt_of_blk HX2.out) (fun hk => HnT.out _ hk rfl)).trans HX2.out); have c13 := (cell_box hcs3 13).trans e13; have HSt := hide hs13; obtain ⟨aa, ac, rfl, _⟩ := hs13.row.len; obtain ⟨q, hq⟩ : ∃ q, q = (N.ab x).length := ⟨_, rfl⟩; have HN := hide hq; have hq1 : q <= 1000 := by rw [hq]; exact HAl.out
   rw [<- hq] at HSt c13; clear HM2 hr3 hx3 hcs3 e13 hs13 HX2 HR2 HF2 hq; go_wp2_with fail
   go_loopw [27] (fun i wr => ∃ k : Nat, k <= q /\ i = .int .i64 k /\ Hid (Rdy N w0 wr (fun k => A k \/ k = w.heap.size)) /\ Hid (Fx N.T w3 wr) /\ Hid (((N.ab x).take k).findSome? (fun i => (Ly.methP N i n).map (·.2)) = none)) (fun i _ => q - (intOf i).toNat)
   case atStart => exact ⟨0, Nat.zero_le _, rfl, HR3, hide (Fx.refl _ _), hide rfl⟩
   case round =>
    obtain ⟨k, hk, rfl, HRr, HFr, HNo⟩ := hrel; have HX4 := hide ((HFr.out.blk _ (Ow.lt_of_blk HX3.out) (fun hk => HnT.out _ hk rfl)).trans HX3.out); by_cases hlt : k < q
    · obtain ⟨z, hz⟩ : ∃ z, (N.ab x)[k]? = some z := ⟨(N.ab x)[k]'(by rw [<- HN.out]; exact hlt), List.getElem?_eq_getElem _⟩
      have HRw := (HSt.out.on (HFr.out.mono fun k _ hk => Or.inl hk) fun _ _ h => h).row; rw [HN.out] at HRw; obtain ⟨g, o, rfl, ys, wf, hc⟩ := Ow.row_at' HRw hz; have hwf : ys = [.pointer (some ⟨z, 0, none⟩)] := wf; subst hwf; have r0 := hc wr (Below.refl _ _) 0 _ rfl; rw [Nat.add_zero, Nat.mul_one] at r0; have hTz : N.T z := HAb.out z (List.mem_of_getElem? hz); have HM4 := hide (HMd.out z hTz wr HRr.out); have HSp := hide (fun y hf => HQ.out.trans (Ly.fs_stop (y := y) HNo.out hz hf)); have HTk := hide (fun hf => Ly.fs_step HNo.out hz hf); clear hc wf hz HRw HNo hTz; have hlt' : (k : Int) < (q : Int) := by omega
      go_wp2_with fail; refine HM4.out.mono ?_; rintro e w5 ⟨hf5, hr5, hx5⟩; clear HM4 r0; obtain ⟨ms, ⟨n1, b2, b3, a4, m4, c4, k5, s6, l7, a8, m8, c8, a9, m9, c9, rfl⟩, rfl, h1, h2⟩ := hf5.open; cases hm : Ly.methP N z n with
      | some o =>
        rw [hm] at h1; have HMx := hide (h1 o rfl); obtain ⟨OW, hOW⟩ : ∃ q : ByteArray, q = ⟨((((some o : Option (Pp.Bs × Pp.XMth))).map (·.1)).getD []).toArray⟩ := ⟨_, rfl⟩; rw [<- hOW]; simp only [Option.isSome_some]; have hX1 := (hx5.blk _ (Ow.lt_of_blk HX4.out) (fun hk => HnT.out _ hk rfl)).trans HX4.out; have hA : Below w5.heap.size w5 (w5.alloc (.cells #[.string OW, .string n1, .bool b2, .bool b3, .slice a4 m4 c4, .int .i64 k5, .string s6, .int .i64 l7, .slice a8 m8 c8, .slice a9 m9 c9] 106)) := (Below.refl _ _).alloc (Nat.le_refl _) _; have HX2 := hide ((hA.block _ (Ow.lt_of_blk hX1)).trans hX1); have hnb := heap_alloc_new w5 (.cells #[.string OW, .string n1, .bool b2, .bool b3, .slice a4 m4 c4, .int .i64 k5, .string s6, .int .i64 l7, .slice a8 m8 c8, .slice a9 m9 c9] 106); have HE2 := hide (fun w3 hf => HEnd.out (w5.alloc (.cells #[.string OW, .string n1, .bool b2, .bool b3, .slice a4 m4 c4, .int .i64 k5, .string s6, .int .i64 l7, .slice a8 m8 c8, .slice a9 m9 c9] 106)) w3 (hr5.on hA) ((HF3.out.trans HFr.out).trans (hx5.trans (Fx.below hA))) hf); have HQ5 := hide (HSp.out o.2 (by rw [hm]; rfl))
        clear hf5 hr5 hx5 h1 h2 hX1 hA HMd HAb HAl HTx HX3 HX4 HnT HEnd hm HSp HTk HRr HFr HSt HQ HR3 HF3 c13 hOW; have g0 := cell_box hnb 0; have g1 := cell_box hnb 1; have g2 := cell_box hnb 2; have g3 := cell_box hnb 3; have g4 := cell_box hnb 4; have g5 := cell_box hnb 5; have g6 := cell_box hnb 6; have g7 := cell_box hnb 7; have g8 := cell_box hnb 8; have g9 := cell_box hnb 9; clear hnb; have f0 := Ow.fzl_blk HX2.out 0; have f1 := Ow.fzl_blk HX2.out 1; have f2 := Ow.fzl_blk HX2.out 2; have f3 := Ow.fzl_blk HX2.out 3; have f4 := Ow.fzl_blk HX2.out 4; have f5 := Ow.fzl_blk HX2.out 5; have f6 := Ow.fzl_blk HX2.out 6; have f7 := Ow.fzl_blk HX2.out 7; have f8 := Ow.fzl_blk HX2.out 8; have q0 := cell_box HX2.out 0; have q1 := cell_box HX2.out 1; have q2 := cell_box HX2.out 2; have q3 := cell_box HX2.out 3; have q4 := cell_box HX2.out 4; have q5 := cell_box HX2.out 5; have q6 := cell_box HX2.out 6; have q7 := cell_box HX2.out 7; have q8 := cell_box HX2.out 8; go_wp2_with fail; refine bodyPost_ret (v := .tuple #[.agg #[.string n1, .bool b2, .bool b3, .slice a4 m4 c4, .int .i64 k5, .string s6, .int .i64 l7, .slice a8 m8 c8, .slice a9 m9 c9], .bool true]) (by simp [results, Tryz.results45, go_sem, zeroM, *]) rfl ?_
        refine ⟨FoundS.yes HQ5.out HMx.out, HE2.out _ ?_⟩
        iterate 9 refine fx_put (S := fun k => k = w.heap.size) ?_ rfl _ _
        exact Fx.refl _ _
      | none =>
        have HNo2 := hide (HTk.out (by rw [hm]; rfl))
        rw [hm] at h2; have h3 := h2 rfl; simp only [zeroM, List.cons.injEq, Value.string.injEq, Value.bool.injEq, Value.slice.injEq, Value.int.injEq] at h3; obtain ⟨rfl, rfl, rfl, ⟨rfl, rfl, rfl⟩, ⟨_, rfl⟩, rfl, ⟨_, rfl⟩, ⟨rfl, rfl, rfl⟩, ⟨rfl, rfl, rfl⟩, _⟩ := h3; simp only [Option.isSome_none, Option.map_none, Option.getD_none, List.toArray]; have hA : Below w5.heap.size w5 (w5.alloc (.cells #[.string ⟨#[]⟩, .string ⟨#[]⟩, .bool false, .bool false, .slice none 0 0, .int .i64 0, .string ⟨#[]⟩, .int .i64 0, .slice none 0 0, .slice none 0 0] 106)) := (Below.refl _ _).alloc (Nat.le_refl _) _; have HR5 := hide (hr5.on hA); have HF5 := hide (HFr.out.trans (hx5.trans (Fx.below hA))); clear hf5 hr5 hx5 h1 h2 hA hm HSp HTk HRr HFr HX4; go_wp2_with fail
        go_roundw
        case rel => exact ⟨k + 1, by omega, by go_num, HR5, HF5, HNo2⟩
        case measure => simp [intOf]; omega
    · have HE := hide (HQ.out.trans (Ly.fs_end HNo.out (by rw [<- HN.out]; omega)))
      have hnl : ¬ ((k : Int) < (q : Int)) := by omega
      have HE2 := hide (fun w3 hf => HEnd.out wr w3 HRr.out (HF3.out.trans HFr.out) hf); clear HNo HQ HEnd HRr HFr HMd HSt; have f0 := Ow.fzl_blk HX4.out 0; have f1 := Ow.fzl_blk HX4.out 1; have f2 := Ow.fzl_blk HX4.out 2; have f3 := Ow.fzl_blk HX4.out 3; have f4 := Ow.fzl_blk HX4.out 4; have f5 := Ow.fzl_blk HX4.out 5; have f6 := Ow.fzl_blk HX4.out 6; have f7 := Ow.fzl_blk HX4.out 7; have f8 := Ow.fzl_blk HX4.out 8; have q0 := cell_box HX4.out 0; have q1 := cell_box HX4.out 1; have q2 := cell_box HX4.out 2; have q3 := cell_box HX4.out 3; have q4 := cell_box HX4.out 4; have q5 := cell_box HX4.out 5; have q6 := cell_box HX4.out 6; have q7 := cell_box HX4.out 7; have q8 := cell_box HX4.out 8; go_wp2_with fail; refine bodyPost_ret (v := .tuple #[.agg zeroM.toArray, .bool false]) (by simp [results, Tryz.results45, go_sem, zeroM, *]) rfl ?_
      refine ⟨FoundS.no HE.out, HE2.out _ ?_⟩
      iterate 9 refine fx_put (S := fun k => k = w.heap.size) ?_ rfl _ _
      exact Fx.refl _ _
namespace Ly
open Pp Hr
theorem fs_congr {α β γ : Type} {f : α -> Option γ} {g : β -> Option γ} (e : α -> β) : ∀ {l : List α}, (∀ x ∈ l, g (e x) = f x) -> (l.map e).findSome? g = l.findSome? f
 | [], _ => rfl
 | a :: l, h => by
   rw [List.map_cons, List.findSome?_cons, List.findSome?_cons, h a (by simp), fs_congr e fun x hx => h x (List.mem_cons_of_mem _ hx)]
theorem img_sig {P N : Net} {f : Nat -> Nat} (h : Img P N f) (hG : P.Good) (k : Nat) (hk : P.T k) (nm : Bs) : sigP N (f k) nm = sigP P k nm := by
 unfold sigP; rw [h.methP hG k hk nm, h.ab hG k hk]; cases methP P k nm with
 | some o => rfl
 | none =>
   simp only; refine fs_congr f fun x hx => ?_; rw [h.methP hG x (abF_T hG _ k hk x hx) nm]
theorem sig_of {N : Net} (hG : N.Good) {b : Nat} (hb : N.T b) {nm : Bs} {m : XMth} (h : sigP N b nm = some m) : ∃ b' o, N.T b' /\ methP N b' nm = some o /\ o.2 = m := by
 unfold sigP at h; cases ho : methP N b nm with
 | some o => rw [ho] at h; injection h with h; exact ⟨b, o, hb, ho, h⟩
 | none =>
   rw [ho] at h; obtain ⟨i, hi, hm⟩ := List.exists_of_findSome?_eq_some h; cases hq : methP N i nm with
   | none => rw [hq] at hm; cases hm
   | some o => rw [hq] at hm; injection hm with hm; exact ⟨i, o, abF_T hG _ b hb i hi, hq, hm⟩
def callQ (cs : List XCls) (n nm : Bs) : Option XMth := if layE cs = 0 then (match placeL (allL cs) n, growL (allL cs) (allL cs) with
 | some k, some up => (match sigP (pnet (allL cs) up) k nm with
   | some m => if m.stat = true then none else some m
   | none => none)
 | _, _ => none) else none
end Ly
theorem tfindc_any {cs : List Pp.XCls} {up : List (List Nat)} {bs : List Nat} (hn : bs.Nodup) (hl : bs.length = (Hr.allL cs).length) (hm : bs.length <= 1000) (v : Value) (n : Pp.Bs) (w0 w : World) (A : Nat -> Prop) (h : RowX w 1 PtrX v bs) (hr : Rdy (Ly.bnet (Hr.allL cs) up bs) w0 w A) :
 Calls Tryz.prog 44 #[v, .string ⟨n.toArray⟩] w fun e w' => e = .returned (.tuple #[.pointer ((Hr.placeL (Hr.allL cs) n).map fun k => ⟨bs.getD k 0, 0, none⟩), .bool (Hr.placeL (Hr.allL cs) n).isSome]) /\ w' = w := by
 have hf := tfind_any bs (fun b => ((Ly.bnet (Hr.allL cs) up bs).cl b).name) v n w h hm (fun b hb => hr.name hb); rw [Ly.bfind (up := up) hn hl n] at hf; simp only [Option.map_map, Option.isSome_map] at hf; exact hf
theorem Call_any (cs : List Pp.XCls) (v : Value) (n nm : Pp.Bs) (w : World) (ht : TabS w) (h : ProgX w v cs) (hl : Pp.Light cs) :
 Calls Tryz.prog 15 #[.agg #[v], .string ⟨n.toArray⟩, .string ⟨nm.toArray⟩] w fun e w' => FoundS w' (Ly.callQ cs n nm) e /\ Below w.heap.size w w' := by
 have HC := hide (fun wx (hb : Below w.heap.size w wx) => tablesOf_any cs v wx (ht.below hb) (h.on hb) hl); obtain ⟨pa, pc, rfl, _⟩ := h.1.len; clear h ht hl; generalize cs.length = m at *
 obtain ⟨wa, hwa⟩ : ∃ wa, wa = (w.alloc (.cells #[.slice pa m pc] 24)).alloc (.cells #[.string ⟨#[]⟩, .bool false, .bool false, .slice none 0 0, .int .i64 0, .string ⟨#[]⟩, .int .i64 0, .slice none 0 0, .slice none 0 0] 39) := ⟨_, rfl⟩; have hx0 := heap_alloc_new w (.cells #[.slice pa m pc] 24); have hb0 := (Below.refl (w.alloc (.cells #[.slice pa m pc] 24)).heap.size (w.alloc (.cells #[.slice pa m pc] 24))).alloc (Nat.le_refl _) (.cells #[.string ⟨#[]⟩, .bool false, .bool false, .slice none 0 0, .int .i64 0, .string ⟨#[]⟩, .int .i64 0, .slice none 0 0, .slice none 0 0] 39); have hx1 := heap_alloc_new (w.alloc (.cells #[.slice pa m pc] 24)) (.cells #[.string ⟨#[]⟩, .bool false, .bool false, .slice none 0 0, .int .i64 0, .string ⟨#[]⟩, .int .i64 0, .slice none 0 0, .slice none 0 0] 39); have HB0 := hide (((Below.refl w.heap.size w).alloc (Nat.le_refl _) (.cells #[.slice pa m pc] 24)).trans (hb0.mono (by simp)))
 have c0 := cell_box ((hb0.block _ (Ow.lt_of_blk hx0)).trans hx0) 0; rw [show (w.alloc (.cells #[.slice pa m pc] 24)).heap.size = w.heap.size + 1 by simp] at hx1
 rw [<- hwa] at hx1 HB0; have HX0 := hide hx1; clear hx0 hb0 hx1; go_enter Tryz.func15, Tryz.ntmps15; go_wp2_with fail; rw [<- hwa] at c0 ⊢; clear hwa; refine (HC.out wa HB0.out).mono ?_; rintro e w1 ⟨vb, rfl, hok, hno, hb1⟩; have HB1 := hide (HB0.out.trans (hb1.mono HB0.out.size)); have HS0 := hide HB0.out.size; have hX1 := (hb1.block _ (Ow.lt_of_blk HX0.out)).trans HX0.out; have HX1 := hide hX1; have HLt := hide (Ow.lt_of_blk HX0.out); clear HC hb1 HB0 c0 HX0 hX1; by_cases h0 : Ly.layE cs = 0
 · obtain ⟨up, bs, w0, he, hg, hnd, hlen, hlow, hr, hst⟩ := hok h0
   have hOk := Ly.netOk he hg hnd hlen; have HCl := hide (tfindc_any hnd hlen hOk.len vb n w0 w1 _ hst.row hr)
   have HSl : Hid (∀ k, Hr.placeL (Hr.allL cs) n = some k -> Ly.callQ cs n nm = (match Ly.sigP (Ly.bnet (Hr.allL cs) up bs) (bs.getD k 0) nm with | some m => if m.stat = true then none else some m | none => none)) := hide fun k hk => by
    unfold Ly.callQ; obtain ⟨c, hc, _⟩ := Hr.placeL_lt hk; rw [if_pos h0, hk, hg, Ly.img_sig (Ly.bnet_img up hnd hlen) (Ly.pnet_good he hg) k (List.getElem?_eq_some_iff.1 hc).1]
   have HSn : Hid (Hr.placeL (Hr.allL cs) n = none -> Ly.callQ cs n nm = none) := hide fun hk => by unfold Ly.callQ; rw [if_pos h0, hk]
   have HMd : Hid (∀ k, Hr.placeL (Hr.allL cs) n = some k -> Calls Tryz.prog 45 #[.pointer (some ⟨bs.getD k 0, 0, none⟩), .string ⟨nm.toArray⟩] w1 _) := hide fun k hk => signature_any _ hOk.good hOk.small w0 (bs.getD k 0) ((Ly.bnet_img up hnd hlen).mk_T (by obtain ⟨c, hc, _⟩ := Hr.placeL_lt hk; exact (List.getElem?_eq_some_iff.1 hc).1)) nm w1 _ hr
   have HKd : Hid (∀ k, Hr.placeL (Hr.allL cs) n = some k -> ∀ m, Ly.sigP (Ly.bnet (Hr.allL cs) up bs) (bs.getD k 0) nm = some m -> ∀ t ∈ m.params, t.kind ≠ 0) := hide fun k hk m hm => by
    obtain ⟨b', o, hb', ho, rfl⟩ := Ly.sig_of hOk.good ((Ly.bnet_img up hnd hlen).mk_T (by obtain ⟨c, hc, _⟩ := Hr.placeL_lt hk; exact (List.getElem?_eq_some_iff.1 hc).1)) hm
    exact Ly.meth_kinds he hg hnd hlen hb' ho
   have HLo : Hid (∀ k, k ∈ bs -> wa.heap.size <= k) := hide fun k hk => Nat.le_trans hlow (hr.2.2.1 k hk).1; rw [h0]; obtain ⟨ba, bc, rfl, _⟩ := hst.row.len; clear hok hno he hg hnd hlen hlow hr hst hOk h0; generalize bs.length = q at *
   go_wp2_with fail; refine HCl.out.mono ?_; clear HCl; rintro e w2 ⟨rfl, rfl⟩; cases hq : Hr.placeL (Hr.allL cs) n with
   | none =>
     have HSS := hide (HSn.out hq); clear HSl HSn HMd HKd HLo hq; have f0 := Ow.fzl_blk HX1.out 0; have f1 := Ow.fzl_blk HX1.out 1; have f2 := Ow.fzl_blk HX1.out 2; have f3 := Ow.fzl_blk HX1.out 3; have f4 := Ow.fzl_blk HX1.out 4; have f5 := Ow.fzl_blk HX1.out 5; have f6 := Ow.fzl_blk HX1.out 6; have f7 := Ow.fzl_blk HX1.out 7; have f8 := Ow.fzl_blk HX1.out 8; have q0 := cell_box HX1.out 0; have q1 := cell_box HX1.out 1; have q2 := cell_box HX1.out 2; have q3 := cell_box HX1.out 3; have q4 := cell_box HX1.out 4; have q5 := cell_box HX1.out 5; have q6 := cell_box HX1.out 6; have q7 := cell_box HX1.out 7; have q8 := cell_box HX1.out 8; go_wp2_with fail; refine bodyPost_ret (v := .tuple #[.agg zeroM.toArray, .bool false]) (by simp [results, Tryz.results15, go_sem, zeroM, *]) rfl ?_
     refine ⟨FoundS.no HSS.out, ?_⟩
     iterate 9 refine put_up ?_ (Nat.le_succ _) _ _
     exact HB1.out
   | some k =>
     have hs := HSl.out k hq; have HM := hide (HMd.out k hq); have HKn := hide (HKd.out k hq); clear HSl HSn HMd HKd hq; simp only [Option.map_some, Option.isSome_some]; generalize bs.getD k 0 = b at *
     go_wp2_with fail; refine HM.out.mono ?_; clear HM; rintro e w3 ⟨hf3, hr3, hx3⟩; generalize Ly.sigP (Ly.bnet (Hr.allL cs) up bs) b nm = r at *
     obtain ⟨ms, ⟨n1, b2, b3, a4, m4, c4, k5, s6, l7, a8, m8, c8, a9, m9, c9, rfl⟩, rfl, h1, h2⟩ := hf3; have hX3 := (hx3.blk _ (Ow.lt_of_blk HX1.out) (fun hk => absurd (HLo.out _ hk) (Nat.not_le.2 HLt.out))).trans HX1.out; have hA : Below w3.heap.size w3 (w3.alloc (.cells #[.string n1, .bool b2, .bool b3, .slice a4 m4 c4, .int .i64 k5, .string s6, .int .i64 l7, .slice a8 m8 c8, .slice a9 m9 c9] 39)) := (Below.refl _ _).alloc (Nat.le_refl _) _; have HX4 := hide ((hA.block _ (Ow.lt_of_blk hX3)).trans hX3); have hB3 := below_fx HB1.out hx3 fun k hk => Nat.le_trans HS0.out (HLo.out k hk); have HB4 := hide (hB3.trans (hA.mono hB3.size)); have hnb := heap_alloc_new w3 (.cells #[.string n1, .bool b2, .bool b3, .slice a4 m4 c4, .int .i64 k5, .string s6, .int .i64 l7, .slice a8 m8 c8, .slice a9 m9 c9] 39); have g0 := cell_box hnb 0; have g1 := cell_box hnb 1; have g2 := cell_box hnb 2; have g3 := cell_box hnb 3; have g4 := cell_box hnb 4; have g5 := cell_box hnb 5; have g6 := cell_box hnb 6; have g7 := cell_box hnb 7; have g8 := cell_box hnb 8; cases r with
     | none =>
       have HSS := hide (show Ly.callQ cs n nm = none from hs)
       clear hr3 hx3 h1 h2 hA hX3 hB3 HB1 HS0 HLo HLt HX1 hnb hs; have f0 := Ow.fzl_blk HX4.out 0; have f1 := Ow.fzl_blk HX4.out 1; have f2 := Ow.fzl_blk HX4.out 2; have f3 := Ow.fzl_blk HX4.out 3; have f4 := Ow.fzl_blk HX4.out 4; have f5 := Ow.fzl_blk HX4.out 5; have f6 := Ow.fzl_blk HX4.out 6; have f7 := Ow.fzl_blk HX4.out 7; have f8 := Ow.fzl_blk HX4.out 8; have q0 := cell_box HX4.out 0; have q1 := cell_box HX4.out 1; have q2 := cell_box HX4.out 2; have q3 := cell_box HX4.out 3; have q4 := cell_box HX4.out 4; have q5 := cell_box HX4.out 5; have q6 := cell_box HX4.out 6; have q7 := cell_box HX4.out 7; have q8 := cell_box HX4.out 8; go_wp2_with fail; refine bodyPost_ret (v := .tuple #[.agg zeroM.toArray, .bool false]) (by simp [results, Tryz.results15, go_sem, zeroM, *]) rfl ?_
       refine ⟨FoundS.no HSS.out, ?_⟩
       iterate 9 refine put_up ?_ (Nat.le_succ _) _ _
       exact HB4.out
     | some m =>
       have HM4 := hide ((h1 m rfl).on (hr3.1.trans (hA.mono hr3.1.size))); have HKm := hide (HKn.out m rfl); obtain ⟨vp, vc, vk, heq, _⟩ := h1 m rfl; simp only [mthXL, List.cons.injEq, Value.bool.injEq] at heq; have hb2 : b2 = m.stat := heq.2.1; cases b2 with
       | true =>
         have HSS := hide (show Ly.callQ cs n nm = none by rw [hs]; simp only [<- hb2, if_true])
         clear hr3 hx3 h1 h2 hA hX3 hB3 HB1 HS0 HLo HLt HX1 hnb hs heq hb2 HKn; have f0 := Ow.fzl_blk HX4.out 0; have f1 := Ow.fzl_blk HX4.out 1; have f2 := Ow.fzl_blk HX4.out 2; have f3 := Ow.fzl_blk HX4.out 3; have f4 := Ow.fzl_blk HX4.out 4; have f5 := Ow.fzl_blk HX4.out 5; have f6 := Ow.fzl_blk HX4.out 6; have f7 := Ow.fzl_blk HX4.out 7; have f8 := Ow.fzl_blk HX4.out 8; have q0 := cell_box HX4.out 0; have q1 := cell_box HX4.out 1; have q2 := cell_box HX4.out 2; have q3 := cell_box HX4.out 3; have q4 := cell_box HX4.out 4; have q5 := cell_box HX4.out 5; have q6 := cell_box HX4.out 6; have q7 := cell_box HX4.out 7; have q8 := cell_box HX4.out 8; go_wp2_with fail; refine bodyPost_ret (v := .tuple #[.agg zeroM.toArray, .bool false]) (by simp [results, Tryz.results15, go_sem, zeroM, *]) rfl ?_
         refine ⟨FoundS.no HSS.out, ?_⟩
         iterate 9 refine put_up ?_ (Nat.le_succ _) _ _
         exact HB4.out
       | false =>
         have HSS := hide (show Ly.callQ cs n nm = some m by rw [hs]; simp only [<- hb2]; rfl)
         clear hr3 hx3 h1 h2 hA hX3 hB3 HB1 HS0 HLo HLt HX1 hnb hs heq hb2 HKn; have f0 := Ow.fzl_blk HX4.out 0; have f1 := Ow.fzl_blk HX4.out 1; have f2 := Ow.fzl_blk HX4.out 2; have f3 := Ow.fzl_blk HX4.out 3; have f4 := Ow.fzl_blk HX4.out 4; have f5 := Ow.fzl_blk HX4.out 5; have f6 := Ow.fzl_blk HX4.out 6; have f7 := Ow.fzl_blk HX4.out 7; have f8 := Ow.fzl_blk HX4.out 8; have q0 := cell_box HX4.out 0; have q1 := cell_box HX4.out 1; have q2 := cell_box HX4.out 2; have q3 := cell_box HX4.out 3; have q4 := cell_box HX4.out 4; have q5 := cell_box HX4.out 5; have q6 := cell_box HX4.out 6; have q7 := cell_box HX4.out 7; have q8 := cell_box HX4.out 8; go_wp2_with fail; refine bodyPost_ret (v := .tuple #[.agg #[.string n1, .bool false, .bool b3, .slice a4 m4 c4, .int .i64 k5, .string s6, .int .i64 l7, .slice a8 m8 c8, .slice a9 m9 c9], .bool true]) (by simp [results, Tryz.results15, go_sem, *]) rfl ?_
         refine ⟨FoundS.yes (ms := [.string n1, .bool false, .bool b3, .slice a4 m4 c4, .int .i64 k5, .string s6, .int .i64 l7, .slice a8 m8 c8, .slice a9 m9 c9]) HSS.out (mth_off (b0 := w.heap.size + 1) HX4.out ?_ HM4.out HKm.out), ?_⟩
         · iterate 9 refine fx_put (S := fun k => k = w.heap.size + 1) ?_ rfl _ _
           exact Fx.refl _ _
         · iterate 9 refine put_up ?_ (Nat.le_succ _) _ _
           exact HB4.out
 · have hS : Ly.callQ cs n nm = none := by unfold Ly.callQ; rw [if_neg h0]
   have hv := hno h0; subst hv; have h0' : (Ly.layE cs != 0) = true := by simpa using h0
   have HSS := hide hS; clear hok hno hS HS0; have f0 := Ow.fzl_blk HX1.out 0; have f1 := Ow.fzl_blk HX1.out 1; have f2 := Ow.fzl_blk HX1.out 2; have f3 := Ow.fzl_blk HX1.out 3; have f4 := Ow.fzl_blk HX1.out 4; have f5 := Ow.fzl_blk HX1.out 5; have f6 := Ow.fzl_blk HX1.out 6; have f7 := Ow.fzl_blk HX1.out 7; have f8 := Ow.fzl_blk HX1.out 8; have q0 := cell_box HX1.out 0; have q1 := cell_box HX1.out 1; have q2 := cell_box HX1.out 2; have q3 := cell_box HX1.out 3; have q4 := cell_box HX1.out 4; have q5 := cell_box HX1.out 5; have q6 := cell_box HX1.out 6; have q7 := cell_box HX1.out 7; have q8 := cell_box HX1.out 8; go_wp2_with fail; refine bodyPost_ret (v := .tuple #[.agg zeroM.toArray, .bool false]) (by simp [results, Tryz.results15, go_sem, zeroM, *]) rfl ?_
   refine ⟨FoundS.no HSS.out, ?_⟩
   iterate 9 refine put_up ?_ (Nat.le_succ _) _ _
   exact HB1.out
namespace Ly
open Pp Hr
def statC (c : XCls) : List Slt := ownL c true c.fields
def staticsQ (cs : List XCls) : List Slt := if layE cs = 0 then (allL cs).flatMap statC else []
def stA (N : Net) (bs : List Nat) (k : Nat) : List Slt := (bs.take k).flatMap fun b => statC (N.cl b)
theorem stA_snoc {N : Net} {bs : List Nat} {k b : Nat} (h : bs[k]? = some b) : stA N bs (k + 1) = stA N bs k ++ statC (N.cl b) := by
 unfold stA; rw [List.take_add_one, h, List.flatMap_append]; simp
theorem stA_end {N : Net} {bs : List Nat} {k : Nat} (h : bs.length <= k) : stA N bs k = bs.flatMap fun b => statC (N.cl b) := by
 unfold stA; rw [List.take_of_length_le h]
theorem statC_len (c : XCls) (h : c.fields.length <= 100) : (statC c).length <= 100 := by
 unfold statC ownL; rw [List.length_map]; exact Nat.le_trans (List.length_filter_le _ _) h
theorem stA_len {N : Net} {bs : List Nat} (h : ∀ b ∈ bs, (N.cl b).fields.length <= 100) : ∀ k, (stA N bs k).length <= k * 100 := by
 intro k
 induction k with
 | zero => simp [stA]
 | succ k ih =>
   cases hb : bs[k]? with
   | none =>
     have : bs.length <= k := List.getElem?_eq_none_iff.1 hb; rw [stA_end (by omega), <- stA_end this]
     omega
   | some b =>
     rw [stA_snoc hb, List.length_append]; have := statC_len (N.cl b) (h b (List.mem_of_getElem? hb)); omega
theorem st_bs {l : List XCls} {up : List (List Nat)} {bs : List Nat} (hn : bs.Nodup) (hl : bs.length = l.length) : (bs.flatMap fun b => statC ((bnet l up bs).cl b)) = l.flatMap statC := by
 have h1 : bs.map (fun b => (bnet l up bs).cl b) = l := by
  apply List.ext_getElem?; intro k; rw [List.getElem?_map]; by_cases hk : k < bs.length
  · rw [getD_at hk]
    show some (clP l (bs.idxOf (bs.getD k 0))) = _; rw [idx_get hn hk]; obtain ⟨c, hc⟩ : ∃ c, l[k]? = some c := ⟨_, List.getElem?_eq_getElem (by omega)⟩
    rw [clP_at hc, hc]
  · rw [List.getElem?_eq_none (by omega), List.getElem?_eq_none (by omega)]
    rfl
 rw [<- List.flatMap_map, h1]
end Ly
theorem Statics_any (cs : List Pp.XCls) (v : Value) (w : World) (ht : TabS w) (h : ProgX w v cs) (hl : Pp.Light cs) :
 Calls Tryz.prog 13 #[.agg #[v]] w fun e w' => ∃ v', e = .returned (.tuple #[v', .int .i64 (Ly.layE cs)]) /\ RowX w' 4 SltX v' (Ly.staticsQ cs) /\ Below w.heap.size w w' := by
 have HC := hide (fun wx (hb : Below w.heap.size w wx) => tablesOf_any cs v wx (ht.below hb) (h.on hb) hl); obtain ⟨pa, pc, rfl, _⟩ := h.1.len; clear h ht hl; generalize cs.length = m at *
 have hx0 := heap_alloc_new w (.cells #[.slice pa m pc] 24); have HB0 := hide ((Below.refl w.heap.size w).alloc (Nat.le_refl _) (.cells #[.slice pa m pc] 24)); have c0 := cell_box hx0 0; obtain ⟨j0, hj, hj0, hj1, hj2⟩ := Ow.info_of' Ow.i_slot; clear hx0; go_enter Tryz.func13, Tryz.ntmps13; go_wp2_with fail; generalize w.alloc (.cells #[.slice pa m pc] 24) = wa at *
 refine (HC.out wa HB0.out).mono ?_; rintro e w1 ⟨vb, rfl, hok, hno, hb1⟩; have HB1 := hide (HB0.out.trans (hb1.mono HB0.out.size)); clear HC hb1 HB0 c0; by_cases h0 : Ly.layE cs = 0
 · obtain ⟨up, bs, w0, he, hg, hnd, hlen, hlow, hr, hst⟩ := hok h0
   have hOk := Ly.netOk he hg hnd hlen
   have HQ : Hid (Ly.stA (Ly.bnet (Hr.allL cs) up bs) bs bs.length = Ly.staticsQ cs) := hide (by
    rw [Ly.stA_end (Nat.le_refl _), Ly.st_bs hnd hlen]; unfold Ly.staticsQ
    rw [if_pos h0])
   have HFl : Hid (∀ b ∈ bs, ((Ly.bnet (Hr.allL cs) up bs).cl b).fields.length <= 100) := hide fun b hb => hOk.small.flds b hb
   have HRd : Hid (∀ b ∈ bs, ∃ ys, ClsX w1 ((Ly.bnet (Hr.allL cs) up bs).cl b) ys /\ b < w1.heap.size /\ ∀ (j : Nat) (u : Value), ys[j]? = some u -> w1.cell? ⟨b, j, none⟩ = some u) := hide fun b hb => by
    obtain ⟨_, ys, h1, h2, h3, _⟩ := hr.cls hb; exact ⟨ys, h2.on hr.1, Ow.lt_of_blk h1, h3⟩
   have HR := hide hst.row; have hm := hOk.len; rw [h0]; have HZ := hide h0; obtain ⟨ba, bc, rfl, _⟩ := hst.row.len; clear hok hno he hg hnd hlen hlow hr hst hOk h0; generalize Ly.bnet (Hr.allL cs) up bs = N at *
   obtain ⟨q, hq⟩ : ∃ q, q = bs.length := ⟨_, rfl⟩; have HN := hide hq; rw [<- hq] at HR HQ hm ⊢; clear hq; go_wp2_with fail
   go_loopw [6, 19] (fun l i wr => ∃ (k : Nat) (la : Option Addr) (lc : Nat) (ln : Nat), k <= q /\ i = .int .i64 k /\ l = .slice la ln lc /\ Hid (ln = (Ly.stA N bs k).length) /\ Hid (Below w1.heap.size w1 wr) /\ Hid (Ow.OwnX wr w1.heap.size 64 4 SltX (.slice la ln lc) (Ly.stA N bs k))) (fun _ i _ => q - (intOf i).toNat)
   case atStart => exact ⟨0, none, 0, 0, Nat.zero_le _, rfl, rfl, hide rfl, hide (Below.refl _ _), hide (Ow.OwnX.nil _ _ _ _ _)⟩
   case round =>
    obtain ⟨k, la, lc, ln, hk, rfl, rfl, HLn, HB, HO⟩ := hrel; by_cases hlt : k < q
    · obtain ⟨x, hx⟩ : ∃ x, bs[k]? = some x := ⟨bs[k]'(by rw [<- HN.out]; exact hlt), List.getElem?_eq_getElem _⟩
      obtain ⟨g, o, rfl, ys, wf, hc⟩ := Ow.row_at' HR.out hx; have hwf : ys = [.pointer (some ⟨x, 0, none⟩)] := wf; subst hwf; have r0 := hc wr HB.out 0 _ rfl; rw [Nat.add_zero, Nat.mul_one] at r0; have hxm := List.mem_of_getElem? hx; obtain ⟨zs, hz, hxl, hzc⟩ := HRd.out x hxm; have HTk := hide (Ly.stA_snoc (N := N) hx); have hfl := HFl.out x hxm; have HOS := hide (ownSlots_any (N.cl x) zs true wr (hz.on HB.out) hfl); have HCe : Hid (∀ (j : Nat) (u : Value), zs[j]? = some u -> wr.cell? ⟨x, j, none⟩ = some u) := hide fun j u hu => (HB.out.cell (p := ⟨x, j, none⟩) hxl).trans (hzc j u hu); have hla := Ly.stA_len (N := N) HFl.out k; have hlb := Ly.statC_len (N.cl x) hfl; obtain ⟨vi, vf, vm, rfl, x1, x2, x3, _⟩ := hz; obtain ⟨ia, ic, rfl, _⟩ := x1.len; obtain ⟨fa, fc, rfl, _⟩ := x2.len; obtain ⟨ma, mc, rfl, _⟩ := x3.len; have q0 := HCe.out 0 _ rfl; have q1 := HCe.out 1 _ rfl; have q2 := HCe.out 2 _ rfl; have q3 := HCe.out 3 _ rfl; have q4 := HCe.out 4 _ rfl; have q5 := HCe.out 5 _ rfl; simp only [clsXL] at HOS; clear HCe hc hx wf hxm hxl hzc hfl x1 x2 x3; have hlt' : (k : Int) < (q : Int) := by omega
      go_wp2_with fail; refine HOS.out.mono ?_; rintro e w5 ⟨v5, rfl, ho5, hb5⟩; have HO5 := hide (ho5.row shp_slt fun _ _ h => h); have HO2 := hide (HO.out.on hb5 fun _ _ h => h); have HB5 := hide (HB.out.trans (hb5.mono HB.out.size)); obtain ⟨sa, sc, rfl⟩ := ho5.shape; clear ho5 hb5 HOS HO HB q0 q1 q2 q3 q4 q5 r0; have hlb' : (Pp.ownL (N.cl x) true (N.cl x).fields).length <= 100 := hlb
      go_wp2_with (at_builtin; refine Ow.wpList_app rfl (.tmp 23) (.tmp 28) 29 rfl Tryz.underlying29 hj hj0 hj1 hj2 (by decide) shp_slt (by first | rfl | simp [Act.eval, Act.put]) HO2.out (by first | rfl | simp [Act.eval, Act.put]) HO5.out (by omega) (by decide) HB5.out.size ?_)
      intro v6 w6 ho6 hg6; have HB6 := hide (HB5.out.trans (Ow.bel_grown HO2.out HB5.out.size hg6)); rw [show Ly.stA N bs k ++ Pp.ownL (N.cl x) true (N.cl x).fields = Ly.stA N bs (k + 1) from HTk.out.symm] at ho6
      have HO6 := hide ho6; obtain ⟨xa, xc, hv6⟩ := ho6.shape; subst hv6; clear ho6 hg6 HO2 HO5 HB5 hlb hlb' hla; go_wp2_with fail
      go_roundw
      case rel => exact ⟨k + 1, xa, xc, _, by omega, by go_num, rfl, hide rfl, HB6, HO6⟩
      case measure => simp [intOf]; omega
    · have hkq : k = q := by omega
      subst hkq; have hnl : ¬ ((k : Int) < (k : Int)) := by omega
      have HO1 := HO; rw [HQ.out] at HO1; have HRw := hide (HO1.out.row shp_slt fun _ _ h => h); have HL2 := HLn; rw [HQ.out] at HL2; have hl2 := HL2.out; have HBw := hide (HB1.out.trans (HB.out.mono HB1.out.size)); subst hl2; clear HO1 HO HL2 HLn HB; go_wp2_with fail; refine bodyPost_ret (v := .tuple #[.slice la (Ly.staticsQ cs).length lc, .int .i64 0]) (by simp [results, Tryz.results13, go_sem]) rfl ?_
      rw [HZ.out]; exact ⟨_, rfl, HRw.out, HBw.out⟩
 · have hS : Ly.staticsQ cs = [] := by unfold Ly.staticsQ; rw [if_neg h0]
   have hv := hno h0; subst hv; have h0' : (Ly.layE cs != 0) = true := by simpa using h0
   have HSS := hide hS; clear hok hno hS; go_wp2_with fail; refine bodyPost_ret (v := .tuple #[.slice none 0 0, .int .i64 (Ly.layE cs)]) (by simp [results, Tryz.results13, go_sem]) rfl ?_
   rw [HSS.out]; exact ⟨_, rfl, ⟨none, 0, rfl, Nat.le_refl _, .inl rfl⟩, HB1.out⟩
namespace Ly
open Pp Hr
theorem first_zero {α : Type} {f : α -> Int} : ∀ {l : List α}, firstL f l = 0 -> ∀ x ∈ l, f x = 0
 | [], _, x, hx => by cases hx
 | a :: l, h, x, hx => by
   unfold firstL at h; by_cases ha : f a = 0
   · rcases List.mem_cons.1 hx with rfl | hx
     · exact ha
     · exact first_zero (by simpa [ha] using h) x hx
   · simp [ha] at h
section
variable {cs : List XCls} {up : List (List Nat)} (hz : layE cs = 0) (hg : growL (allL cs) (allL cs) = some up)
include hz hg
theorem lay_parts : errL cs = 0 /\ (∀ k, k < (allL cs).length -> memF (allL cs) (clP (allL cs) k) = 0) /\ (∀ k, k < (allL cs).length -> supF (pnet (allL cs) up) k = 0) := by
 have he : errL cs = 0 := by
  unfold layE at hz
  split at hz
  · assumption
  · exact hz
 unfold layE at hz; rw [if_pos he, hg] at hz; simp only at hz; unfold checkF at hz
 split at hz
 · rename_i h1
   split at hz
   · rename_i h2
     exact ⟨he, fun k hk => first_zero h1 k (List.mem_range.2 hk), fun k hk => first_zero h2 k (List.mem_range.2 hk)⟩
   · rename_i h2
     exact absurd hz h2
 · rename_i h1
   exact absurd hz h1
theorem sl_super {k s : Nat} (hk : k < (allL cs).length) (hs : supP (allL cs) k = some s) : (pnet (allL cs) up).sl k = (pnet (allL cs) up).sl s ++ ownL (clP (allL cs) k) false (clP (allL cs) k).fields := by
 have he := (lay_parts hz hg).1; have := (pnet_good he hg).sl k hk; rw [show (pnet (allL cs) up).sup k = some s from hs] at this
 exact this
theorem sl_bare {k : Nat} (hk : k < (allL cs).length) (hs : supP (allL cs) k = none) : (pnet (allL cs) up).sl k = ownL (clP (allL cs) k) false (clP (allL cs) k).fields := by
 have he := (lay_parts hz hg).1; have := (pnet_good he hg).sl k hk; rw [show (pnet (allL cs) up).sup k = none from hs] at this
 exact this
theorem sl_owner : ∀ (n k : Nat), rkP up k < n -> k < (allL cs).length -> ∀ t ∈ (pnet (allL cs) up).sl k, underQ cs (clP (allL cs) k).name t.owner := by
 have he := (lay_parts hz hg).1; intro n
 induction n with
 | zero => intro k h; omega
 | succ n ih =>
   intro k hn hk t ht; have hself : underQ cs (clP (allL cs) k).name (clP (allL cs) k).name := under_self he (at_of hk)
   have hown : t ∈ ownL (clP (allL cs) k) false (clP (allL cs) k).fields -> underQ cs (clP (allL cs) k).name t.owner := by
    intro h; obtain ⟨f, _, rfl⟩ := List.mem_map.1 h; exact hself
   cases hs : supP (allL cs) k with
   | none => rw [sl_bare hz hg hk hs] at ht; exact hown ht
   | some s =>
     rw [sl_super hz hg hk hs] at ht
     rcases List.mem_append.1 ht with h | h
     · obtain ⟨h1, h2, h3, _⟩ := sup_step he hg hk hs
       have hlt := rk_lt hg (not_ring he hg) h2; have hu := ih s (by omega) h3 t h
       refine under_trans ?_ hu; obtain ⟨_, ho, _⟩ := err_zero he; exact ⟨up, k, s, he, hg, ho k _ (at_of hk), ho s _ (at_of h3), .inr (.inr (.one h2))⟩
     · exact hown h
theorem sl_once : ∀ (n k : Nat), rkP up k < n -> k < (allL cs).length -> (((pnet (allL cs) up).sl k).map (·.name)).Nodup := by
 obtain ⟨he, hm, hsp⟩ := lay_parts hz hg; intro n
 induction n with
 | zero => intro k h; omega
 | succ n ih =>
   intro k hn hk
   have hnd : ((clP (allL cs) k).fields.map (·.name)).Nodup := by
    have h := hm k hk; unfold memF at h
    split at h
    · split at h
      · cases h
      · rename_i h2
        unfold twiceB at h2; simp at h2; exact h2.1
    · cases h
   have hown : ((ownL (clP (allL cs) k) false (clP (allL cs) k).fields).map (·.name)).Nodup := by
    unfold ownL; rw [List.map_map]; exact hnd.sublist (List.Sublist.map _ (List.filter_sublist))
   cases hs : supP (allL cs) k with
   | none => rw [sl_bare hz hg hk hs]; exact hown
   | some s =>
     obtain ⟨h1, h2, h3, _⟩ := sup_step he hg hk hs; have hlt := rk_lt hg (not_ring he hg) h2; rw [sl_super hz hg hk hs, List.map_append, List.nodup_append]; refine ⟨ih s (by omega) h3, hown, ?_⟩
     intro a ha b hb hab; subst hab; obtain ⟨t, ht, rfl⟩ := List.mem_map.1 ha; obtain ⟨u, hu, hun⟩ := List.mem_map.1 hb; obtain ⟨f, hf, rfl⟩ := List.mem_map.1 hu; rw [List.mem_filter] at hf; have hp := hsp k hk; unfold supF at hp; rw [show (pnet (allL cs) up).sup k = some s from hs] at hp
     simp only at hp
     split at hp
     · cases hp
     · rename_i hq
       apply hq; rw [List.any_eq_true]; refine ⟨f, hf.1, ?_⟩; unfold clashF slotP; rw [Bool.and_eq_true, List.any_eq_true]; refine ⟨by simpa using hf.2, t, ht, ?_⟩
       simp only at hun; simp [hun]
end
end Ly
end Go.Proofs.YtjlappamkfjlkaaGreatDoor

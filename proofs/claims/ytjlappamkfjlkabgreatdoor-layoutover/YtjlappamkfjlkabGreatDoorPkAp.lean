/- What the laws of this seat lean on: 5 texts. -/
import Derived.Test.YtjlappamkfjlkabGreatDoorPkAo
import Derived.Test.YtjlappamkfjlkabGreatDoorPkAe
import Derived.Test.YtjlappamkfjlkabGreatDoorCards
import Derived.Test.YtjlappamkfjlkabGreatDoorTie
import Derived.ProofKit
import Derived.OpenShut
import Derived.Deep.DeepHandedRow
import Derived.Lib.LaidTab
import Derived.LaidSub
import Derived.ChangeOld
import Derived.ShutString
set_option maxRecDepth 100000
set_option maxHeartbeats 64000000
set_option linter.unusedVariables false
set_option linter.unusedSimpArgs false
namespace Go.Proofs.YtjlappamkfjlkabGreatDoor
open Go.RowKit
namespace Ly
open Pp Hr
theorem fs_congr {α β γ : Type} {f : α -> Option γ} {g : β -> Option γ} (e : α -> β) : ∀ {l : List α}, (∀ x ∈ l, g (e x) = f x) -> (l.map e).findSome? g = l.findSome? f
 | [], _ => rfl
 | a :: l, h => by
   rw [List.map_cons, List.findSome?_cons, List.findSome?_cons, h a (by simp), fs_congr e fun x hx => h x (List.mem_cons_of_mem _ hx)]
theorem img_sig {P N : Net} {f : Nat -> Nat} (h : Img P N f) (hG : P.Good) (k : Nat) (hk : P.T k) (nm : Bs) : sigP N (f k) nm = sigP P k nm := by
 unfold sigP; rw [h.methP hG k hk nm, h.ab hG k hk]; cases methP P k nm with
 | some o => rfl
 | none =>
   simp only; refine fs_congr f fun x hx => ?_; rw [h.methP hG x (abF_T hG _ k hk x hx) nm]
theorem sig_of {N : Net} (hG : N.Good) {b : Nat} (hb : N.T b) {nm : Bs} {m : XMth} (h : sigP N b nm = some m) : ∃ b' o, N.T b' /\ methP N b' nm = some o /\ o.2 = m := by
 unfold sigP at h; cases ho : methP N b nm with
 | some o => rw [ho] at h; injection h with h; exact ⟨b, o, hb, ho, h⟩
 | none =>
   rw [ho] at h; obtain ⟨i, hi, hm⟩ := List.exists_of_findSome?_eq_some h; cases hq : methP N i nm with
   | none => rw [hq] at hm; cases hm
   | some o => rw [hq] at hm; injection hm with hm; exact ⟨i, o, abF_T hG _ b hb i hi, hq, hm⟩
def callQ (cs : List XCls) (n nm : Bs) : Option XMth := if layE cs = 0 then (match placeL (allL cs) n, growL (allL cs) (allL cs) with
 | some k, some up => (match sigP (pnet (allL cs) up) k nm with
   | some m => if m.stat = true then none else some m
   | none => none)
 | _, _ => none) else none
end Ly
theorem tfindc_any {cs : List Pp.XCls} {up : List (List Nat)} {bs : List Nat} (hn : bs.Nodup) (hl : bs.length = (Hr.allL cs).length) (hm : bs.length <= 1000) (v : Value) (n : Pp.Bs) (w0 w : World) (A : Nat -> Prop) (h : RowX w 1 PtrX v bs) (hr : Rdy (Ly.bnet (Hr.allL cs) up bs) w0 w A) :
 Calls Tryz.prog 19 #[v, .string ⟨n.toArray⟩] w fun e w' => e = .returned (.tuple #[.pointer ((Hr.placeL (Hr.allL cs) n).map fun k => ⟨bs.getD k 0, 0, none⟩), .bool (Hr.placeL (Hr.allL cs) n).isSome]) /\ w' = w := by
 have hf := tfind_any bs (fun b => ((Ly.bnet (Hr.allL cs) up bs).cl b).name) v n w h hm (fun b hb => hr.name hb); rw [Ly.bfind (up := up) hn hl n] at hf; simp only [Option.map_map, Option.isSome_map] at hf; exact hf
theorem Call_any (cs : List Pp.XCls) (v : Value) (n nm : Pp.Bs) (w : World) (ht : TabS w) (h : ProgX w v cs) (hl : Pp.Light cs) :
 Calls Tryz.prog 14 #[.agg #[v], .string ⟨n.toArray⟩, .string ⟨nm.toArray⟩] w fun e w' => FoundS w' (Ly.callQ cs n nm) e /\ Below w.heap.size w w' := by
 have HC := hide (fun wx (hb : Below w.heap.size w wx) => tablesOf_any cs v wx (ht.below hb) (h.on hb) hl); obtain ⟨pa, pc, rfl, _⟩ := h.1.len; clear h ht hl; generalize cs.length = m at *
 obtain ⟨wa, hwa⟩ : ∃ wa, wa = (w.alloc (.cells #[.slice pa m pc] 39)).alloc (.cells #[.string ⟨#[]⟩, .bool false, .bool false, .slice none 0 0, .int .i64 0, .string ⟨#[]⟩, .int .i64 0, .slice none 0 0, .slice none 0 0] 29) := ⟨_, rfl⟩; have hx0 := heap_alloc_new w (.cells #[.slice pa m pc] 39); have hb0 := (Below.refl (w.alloc (.cells #[.slice pa m pc] 39)).heap.size (w.alloc (.cells #[.slice pa m pc] 39))).alloc (Nat.le_refl _) (.cells #[.string ⟨#[]⟩, .bool false, .bool false, .slice none 0 0, .int .i64 0, .string ⟨#[]⟩, .int .i64 0, .slice none 0 0, .slice none 0 0] 29); have hx1 := heap_alloc_new (w.alloc (.cells #[.slice pa m pc] 39)) (.cells #[.string ⟨#[]⟩, .bool false, .bool false, .slice none 0 0, .int .i64 0, .string ⟨#[]⟩, .int .i64 0, .slice none 0 0, .slice none 0 0] 29); have HB0 := hide (((Below.refl w.heap.size w).alloc (Nat.le_refl _) (.cells #[.slice pa m pc] 39)).trans (hb0.mono (by simp)))
 have c0 := cell_box ((hb0.block _ (Ow.lt_of_blk hx0)).trans hx0) 0; rw [show (w.alloc (.cells #[.slice pa m pc] 39)).heap.size = w.heap.size + 1 by simp] at hx1
 rw [<- hwa] at hx1 HB0; have HX0 := hide hx1; clear hx0 hb0 hx1; go_enter Tryz.func14, Tryz.ntmps14; go_wp2_with fail; rw [<- hwa] at c0 ⊢; clear hwa; refine (HC.out wa HB0.out).mono ?_; rintro e w1 ⟨vb, rfl, hok, hno, hb1⟩; have HB1 := hide (HB0.out.trans (hb1.mono HB0.out.size)); have HS0 := hide HB0.out.size; have hX1 := (hb1.block _ (Ow.lt_of_blk HX0.out)).trans HX0.out; have HX1 := hide hX1; have HLt := hide (Ow.lt_of_blk HX0.out); clear HC hb1 HB0 c0 HX0 hX1; by_cases h0 : Ly.layE cs = 0
 · obtain ⟨up, bs, w0, he, hg, hnd, hlen, hlow, hr, hst⟩ := hok h0
   have hOk := Ly.netOk he hg hnd hlen; have HCl := hide (tfindc_any hnd hlen hOk.len vb n w0 w1 _ hst.row hr)
   have HSl : Hid (∀ k, Hr.placeL (Hr.allL cs) n = some k -> Ly.callQ cs n nm = (match Ly.sigP (Ly.bnet (Hr.allL cs) up bs) (bs.getD k 0) nm with | some m => if m.stat = true then none else some m | none => none)) := hide fun k hk => by
    unfold Ly.callQ; obtain ⟨c, hc, _⟩ := Hr.placeL_lt hk; rw [if_pos h0, hk, hg, Ly.img_sig (Ly.bnet_img up hnd hlen) (Ly.pnet_good he hg) k (List.getElem?_eq_some_iff.1 hc).1]
   have HSn : Hid (Hr.placeL (Hr.allL cs) n = none -> Ly.callQ cs n nm = none) := hide fun hk => by unfold Ly.callQ; rw [if_pos h0, hk]
   have HMd : Hid (∀ k, Hr.placeL (Hr.allL cs) n = some k -> Calls Tryz.prog 23 #[.pointer (some ⟨bs.getD k 0, 0, none⟩), .string ⟨nm.toArray⟩] w1 _) := hide fun k hk => signature_any _ hOk.good hOk.small w0 (bs.getD k 0) ((Ly.bnet_img up hnd hlen).mk_T (by obtain ⟨c, hc, _⟩ := Hr.placeL_lt hk; exact (List.getElem?_eq_some_iff.1 hc).1)) nm w1 _ hr
   have HKd : Hid (∀ k, Hr.placeL (Hr.allL cs) n = some k -> ∀ m, Ly.sigP (Ly.bnet (Hr.allL cs) up bs) (bs.getD k 0) nm = some m -> ∀ t ∈ m.params, t.kind ≠ 0) := hide fun k hk m hm => by
    obtain ⟨b', o, hb', ho, rfl⟩ := Ly.sig_of hOk.good ((Ly.bnet_img up hnd hlen).mk_T (by obtain ⟨c, hc, _⟩ := Hr.placeL_lt hk; exact (List.getElem?_eq_some_iff.1 hc).1)) hm
    exact Ly.meth_kinds he hg hnd hlen hb' ho
   have HLo : Hid (∀ k, k ∈ bs -> wa.heap.size <= k) := hide fun k hk => Nat.le_trans hlow (hr.2.2.1 k hk).1; rw [h0]; obtain ⟨ba, bc, rfl, _⟩ := hst.row.len; clear hok hno he hg hnd hlen hlow hr hst hOk h0; generalize bs.length = q at *
   go_wp2_with fail; refine HCl.out.mono ?_; clear HCl; rintro e w2 ⟨rfl, rfl⟩; cases hq : Hr.placeL (Hr.allL cs) n with
   | none =>
     have HSS := hide (HSn.out hq); clear HSl HSn HMd HKd HLo hq; have f0 := Ow.fzl_blk HX1.out 0; have f1 := Ow.fzl_blk HX1.out 1; have f2 := Ow.fzl_blk HX1.out 2; have f3 := Ow.fzl_blk HX1.out 3; have f4 := Ow.fzl_blk HX1.out 4; have f5 := Ow.fzl_blk HX1.out 5; have f6 := Ow.fzl_blk HX1.out 6; have f7 := Ow.fzl_blk HX1.out 7; have f8 := Ow.fzl_blk HX1.out 8; have q0 := cell_box HX1.out 0; have q1 := cell_box HX1.out 1; have q2 := cell_box HX1.out 2; have q3 := cell_box HX1.out 3; have q4 := cell_box HX1.out 4; have q5 := cell_box HX1.out 5; have q6 := cell_box HX1.out 6; have q7 := cell_box HX1.out 7; have q8 := cell_box HX1.out 8; go_wp2_with fail; refine bodyPost_ret (v := .tuple #[.agg zeroM.toArray, .bool false]) (by simp [results, Tryz.results14, go_sem, zeroM, *]) rfl ?_
     refine ⟨FoundS.no HSS.out, ?_⟩
     iterate 9 refine put_up ?_ (Nat.le_succ _) _ _
     exact HB1.out
   | some k =>
     have hs := HSl.out k hq; have HM := hide (HMd.out k hq); have HKn := hide (HKd.out k hq); clear HSl HSn HMd HKd hq; simp only [Option.map_some, Option.isSome_some]; generalize bs.getD k 0 = b at *
     go_wp2_with fail; refine HM.out.mono ?_; clear HM; rintro e w3 ⟨hf3, hr3, hx3⟩; generalize Ly.sigP (Ly.bnet (Hr.allL cs) up bs) b nm = r at *
     obtain ⟨ms, ⟨n1, b2, b3, a4, m4, c4, k5, s6, l7, a8, m8, c8, a9, m9, c9, rfl⟩, rfl, h1, h2⟩ := hf3; have hX3 := (hx3.blk _ (Ow.lt_of_blk HX1.out) (fun hk => absurd (HLo.out _ hk) (Nat.not_le.2 HLt.out))).trans HX1.out; have hA : Below w3.heap.size w3 (w3.alloc (.cells #[.string n1, .bool b2, .bool b3, .slice a4 m4 c4, .int .i64 k5, .string s6, .int .i64 l7, .slice a8 m8 c8, .slice a9 m9 c9] 29)) := (Below.refl _ _).alloc (Nat.le_refl _) _; have HX4 := hide ((hA.block _ (Ow.lt_of_blk hX3)).trans hX3); have hB3 := below_fx HB1.out hx3 fun k hk => Nat.le_trans HS0.out (HLo.out k hk); have HB4 := hide (hB3.trans (hA.mono hB3.size)); have hnb := heap_alloc_new w3 (.cells #[.string n1, .bool b2, .bool b3, .slice a4 m4 c4, .int .i64 k5, .string s6, .int .i64 l7, .slice a8 m8 c8, .slice a9 m9 c9] 29); have g0 := cell_box hnb 0; have g1 := cell_box hnb 1; have g2 := cell_box hnb 2; have g3 := cell_box hnb 3; have g4 := cell_box hnb 4; have g5 := cell_box hnb 5; have g6 := cell_box hnb 6; have g7 := cell_box hnb 7; have g8 := cell_box hnb 8; cases r with
     | none =>
       have HSS := hide (show Ly.callQ cs n nm = none from hs)
       clear hr3 hx3 h1 h2 hA hX3 hB3 HB1 HS0 HLo HLt HX1 hnb hs; have f0 := Ow.fzl_blk HX4.out 0; have f1 := Ow.fzl_blk HX4.out 1; have f2 := Ow.fzl_blk HX4.out 2; have f3 := Ow.fzl_blk HX4.out 3; have f4 := Ow.fzl_blk HX4.out 4; have f5 := Ow.fzl_blk HX4.out 5; have f6 := Ow.fzl_blk HX4.out 6; have f7 := Ow.fzl_blk HX4.out 7; have f8 := Ow.fzl_blk HX4.out 8; have q0 := cell_box HX4.out 0; have q1 := cell_box HX4.out 1; have q2 := cell_box HX4.out 2; have q3 := cell_box HX4.out 3; have q4 := cell_box HX4.out 4; have q5 := cell_box HX4.out 5; have q6 := cell_box HX4.out 6; have q7 := cell_box HX4.out 7; have q8 := cell_box HX4.out 8; go_wp2_with fail; refine bodyPost_ret (v := .tuple #[.agg zeroM.toArray, .bool false]) (by simp [results, Tryz.results14, go_sem, zeroM, *]) rfl ?_
       refine ⟨FoundS.no HSS.out, ?_⟩
       iterate 9 refine put_up ?_ (Nat.le_succ _) _ _
       exact HB4.out
     | some m =>
       have HM4 := hide ((h1 m rfl).on (hr3.1.trans (hA.mono hr3.1.size))); have HKm := hide (HKn.out m rfl); obtain ⟨vp, vc, vk, heq, _⟩ := h1 m rfl; simp only [mthXL, List.cons.injEq, Value.bool.injEq] at heq; have hb2 : b2 = m.stat := heq.2.1; cases b2 with
       | true =>
         have HSS := hide (show Ly.callQ cs n nm = none by rw [hs]; simp only [<- hb2, if_true])
         clear hr3 hx3 h1 h2 hA hX3 hB3 HB1 HS0 HLo HLt HX1 hnb hs heq hb2 HKn; have f0 := Ow.fzl_blk HX4.out 0; have f1 := Ow.fzl_blk HX4.out 1; have f2 := Ow.fzl_blk HX4.out 2; have f3 := Ow.fzl_blk HX4.out 3; have f4 := Ow.fzl_blk HX4.out 4; have f5 := Ow.fzl_blk HX4.out 5; have f6 := Ow.fzl_blk HX4.out 6; have f7 := Ow.fzl_blk HX4.out 7; have f8 := Ow.fzl_blk HX4.out 8; have q0 := cell_box HX4.out 0; have q1 := cell_box HX4.out 1; have q2 := cell_box HX4.out 2; have q3 := cell_box HX4.out 3; have q4 := cell_box HX4.out 4; have q5 := cell_box HX4.out 5; have q6 := cell_box HX4.out 6; have q7 := cell_box HX4.out 7; have q8 := cell_box HX4.out 8; go_wp2_with fail; refine bodyPost_ret (v := .tuple #[.agg zeroM.toArray, .bool false]) (by simp [results, Tryz.results14, go_sem, zeroM, *]) rfl ?_
         refine ⟨FoundS.no HSS.out, ?_⟩
         iterate 9 refine put_up ?_ (Nat.le_succ _) _ _
         exact HB4.out
       | false =>
         have HSS := hide (show Ly.callQ cs n nm = some m by rw [hs]; simp only [<- hb2]; rfl)
         clear hr3 hx3 h1 h2 hA hX3 hB3 HB1 HS0 HLo HLt HX1 hnb hs heq hb2 HKn; have f0 := Ow.fzl_blk HX4.out 0; have f1 := Ow.fzl_blk HX4.out 1; have f2 := Ow.fzl_blk HX4.out 2; have f3 := Ow.fzl_blk HX4.out 3; have f4 := Ow.fzl_blk HX4.out 4; have f5 := Ow.fzl_blk HX4.out 5; have f6 := Ow.fzl_blk HX4.out 6; have f7 := Ow.fzl_blk HX4.out 7; have f8 := Ow.fzl_blk HX4.out 8; have q0 := cell_box HX4.out 0; have q1 := cell_box HX4.out 1; have q2 := cell_box HX4.out 2; have q3 := cell_box HX4.out 3; have q4 := cell_box HX4.out 4; have q5 := cell_box HX4.out 5; have q6 := cell_box HX4.out 6; have q7 := cell_box HX4.out 7; have q8 := cell_box HX4.out 8; go_wp2_with fail; refine bodyPost_ret (v := .tuple #[.agg #[.string n1, .bool false, .bool b3, .slice a4 m4 c4, .int .i64 k5, .string s6, .int .i64 l7, .slice a8 m8 c8, .slice a9 m9 c9], .bool true]) (by simp [results, Tryz.results14, go_sem, *]) rfl ?_
         refine ⟨FoundS.yes (ms := [.string n1, .bool false, .bool b3, .slice a4 m4 c4, .int .i64 k5, .string s6, .int .i64 l7, .slice a8 m8 c8, .slice a9 m9 c9]) HSS.out (mth_off (b0 := w.heap.size + 1) HX4.out ?_ HM4.out HKm.out), ?_⟩
         · iterate 9 refine fx_put (S := fun k => k = w.heap.size + 1) ?_ rfl _ _
           exact Fx.refl _ _
         · iterate 9 refine put_up ?_ (Nat.le_succ _) _ _
           exact HB4.out
 · have hS : Ly.callQ cs n nm = none := by unfold Ly.callQ; rw [if_neg h0]
   have hv := hno h0; subst hv; have h0' : (Ly.layE cs != 0) = true := by simpa using h0
   have HSS := hide hS; clear hok hno hS HS0; have f0 := Ow.fzl_blk HX1.out 0; have f1 := Ow.fzl_blk HX1.out 1; have f2 := Ow.fzl_blk HX1.out 2; have f3 := Ow.fzl_blk HX1.out 3; have f4 := Ow.fzl_blk HX1.out 4; have f5 := Ow.fzl_blk HX1.out 5; have f6 := Ow.fzl_blk HX1.out 6; have f7 := Ow.fzl_blk HX1.out 7; have f8 := Ow.fzl_blk HX1.out 8; have q0 := cell_box HX1.out 0; have q1 := cell_box HX1.out 1; have q2 := cell_box HX1.out 2; have q3 := cell_box HX1.out 3; have q4 := cell_box HX1.out 4; have q5 := cell_box HX1.out 5; have q6 := cell_box HX1.out 6; have q7 := cell_box HX1.out 7; have q8 := cell_box HX1.out 8; go_wp2_with fail; refine bodyPost_ret (v := .tuple #[.agg zeroM.toArray, .bool false]) (by simp [results, Tryz.results14, go_sem, zeroM, *]) rfl ?_
   refine ⟨FoundS.no HSS.out, ?_⟩
   iterate 9 refine put_up ?_ (Nat.le_succ _) _ _
   exact HB1.out
namespace Ly
open Pp Hr
def statC (c : XCls) : List Slt := ownL c true c.fields
def staticsQ (cs : List XCls) : List Slt := if layE cs = 0 then (allL cs).flatMap statC else []
def stA (N : Net) (bs : List Nat) (k : Nat) : List Slt := (bs.take k).flatMap fun b => statC (N.cl b)
theorem stA_snoc {N : Net} {bs : List Nat} {k b : Nat} (h : bs[k]? = some b) : stA N bs (k + 1) = stA N bs k ++ statC (N.cl b) := by
 unfold stA; rw [List.take_add_one, h, List.flatMap_append]; simp
theorem stA_end {N : Net} {bs : List Nat} {k : Nat} (h : bs.length <= k) : stA N bs k = bs.flatMap fun b => statC (N.cl b) := by
 unfold stA; rw [List.take_of_length_le h]
theorem statC_len (c : XCls) (h : c.fields.length <= 100) : (statC c).length <= 100 := by
 unfold statC ownL; rw [List.length_map]; exact Nat.le_trans (List.length_filter_le _ _) h
theorem stA_len {N : Net} {bs : List Nat} (h : ∀ b ∈ bs, (N.cl b).fields.length <= 100) : ∀ k, (stA N bs k).length <= k * 100 := by
 intro k
 induction k with
 | zero => simp [stA]
 | succ k ih =>
   cases hb : bs[k]? with
   | none =>
     have : bs.length <= k := List.getElem?_eq_none_iff.1 hb; rw [stA_end (by omega), <- stA_end this]
     omega
   | some b =>
     rw [stA_snoc hb, List.length_append]; have := statC_len (N.cl b) (h b (List.mem_of_getElem? hb)); omega
theorem st_bs {l : List XCls} {up : List (List Nat)} {bs : List Nat} (hn : bs.Nodup) (hl : bs.length = l.length) : (bs.flatMap fun b => statC ((bnet l up bs).cl b)) = l.flatMap statC := by
 have h1 : bs.map (fun b => (bnet l up bs).cl b) = l := by
  apply List.ext_getElem?; intro k; rw [List.getElem?_map]; by_cases hk : k < bs.length
  · rw [getD_at hk]
    show some (clP l (bs.idxOf (bs.getD k 0))) = _; rw [idx_get hn hk]; obtain ⟨c, hc⟩ : ∃ c, l[k]? = some c := ⟨_, List.getElem?_eq_getElem (by omega)⟩
    rw [clP_at hc, hc]
  · rw [List.getElem?_eq_none (by omega), List.getElem?_eq_none (by omega)]
    rfl
 rw [<- List.flatMap_map, h1]
end Ly
theorem Statics_any (cs : List Pp.XCls) (v : Value) (w : World) (ht : TabS w) (h : ProgX w v cs) (hl : Pp.Light cs) :
 Calls Tryz.prog 13 #[.agg #[v]] w fun e w' => ∃ v', e = .returned (.tuple #[v', .int .i64 (Ly.layE cs)]) /\ RowX w' 4 SltX v' (Ly.staticsQ cs) /\ Below w.heap.size w w' := by
 have HC := hide (fun wx (hb : Below w.heap.size w wx) => tablesOf_any cs v wx (ht.below hb) (h.on hb) hl); obtain ⟨pa, pc, rfl, _⟩ := h.1.len; clear h ht hl; generalize cs.length = m at *
 have hx0 := heap_alloc_new w (.cells #[.slice pa m pc] 39); have HB0 := hide ((Below.refl w.heap.size w).alloc (Nat.le_refl _) (.cells #[.slice pa m pc] 39)); have c0 := cell_box hx0 0; obtain ⟨j0, hj, hj0, hj1, hj2⟩ := Ow.info_of' Ow.i_slot; clear hx0; go_enter Tryz.func13, Tryz.ntmps13; go_wp2_with fail; generalize w.alloc (.cells #[.slice pa m pc] 39) = wa at *
 refine (HC.out wa HB0.out).mono ?_; rintro e w1 ⟨vb, rfl, hok, hno, hb1⟩; have HB1 := hide (HB0.out.trans (hb1.mono HB0.out.size)); clear HC hb1 HB0 c0; by_cases h0 : Ly.layE cs = 0
 · obtain ⟨up, bs, w0, he, hg, hnd, hlen, hlow, hr, hst⟩ := hok h0
   have hOk := Ly.netOk he hg hnd hlen
   have HQ : Hid (Ly.stA (Ly.bnet (Hr.allL cs) up bs) bs bs.length = Ly.staticsQ cs) := hide (by
    rw [Ly.stA_end (Nat.le_refl _), Ly.st_bs hnd hlen]; unfold Ly.staticsQ
    rw [if_pos h0])
   have HFl : Hid (∀ b ∈ bs, ((Ly.bnet (Hr.allL cs) up bs).cl b).fields.length <= 100) := hide fun b hb => hOk.small.flds b hb
   have HRd : Hid (∀ b ∈ bs, ∃ ys, ClsX w1 ((Ly.bnet (Hr.allL cs) up bs).cl b) ys /\ b < w1.heap.size /\ ∀ (j : Nat) (u : Value), ys[j]? = some u -> w1.cell? ⟨b, j, none⟩ = some u) := hide fun b hb => by
    obtain ⟨_, ys, h1, h2, h3, _⟩ := hr.cls hb; exact ⟨ys, h2.on hr.1, Ow.lt_of_blk h1, h3⟩
   have HR := hide hst.row; have hm := hOk.len; rw [h0]; have HZ := hide h0; obtain ⟨ba, bc, rfl, _⟩ := hst.row.len; clear hok hno he hg hnd hlen hlow hr hst hOk h0; generalize Ly.bnet (Hr.allL cs) up bs = N at *
   obtain ⟨q, hq⟩ : ∃ q, q = bs.length := ⟨_, rfl⟩; have HN := hide hq; rw [<- hq] at HR HQ hm ⊢; clear hq; go_wp2_with fail
   go_loopw [6, 19] (fun l i wr => ∃ (k : Nat) (la : Option Addr) (lc : Nat) (ln : Nat), k <= q /\ i = .int .i64 k /\ l = .slice la ln lc /\ Hid (ln = (Ly.stA N bs k).length) /\ Hid (Below w1.heap.size w1 wr) /\ Hid (Ow.OwnX wr w1.heap.size 66 4 SltX (.slice la ln lc) (Ly.stA N bs k))) (fun _ i _ => q - (intOf i).toNat)
   case atStart => exact ⟨0, none, 0, 0, Nat.zero_le _, rfl, rfl, hide rfl, hide (Below.refl _ _), hide (Ow.OwnX.nil _ _ _ _ _)⟩
   case round =>
    obtain ⟨k, la, lc, ln, hk, rfl, rfl, HLn, HB, HO⟩ := hrel; by_cases hlt : k < q
    · obtain ⟨x, hx⟩ : ∃ x, bs[k]? = some x := ⟨bs[k]'(by rw [<- HN.out]; exact hlt), List.getElem?_eq_getElem _⟩
      obtain ⟨g, o, rfl, ys, wf, hc⟩ := Ow.row_at' HR.out hx; have hwf : ys = [.pointer (some ⟨x, 0, none⟩)] := wf; subst hwf; have r0 := hc wr HB.out 0 _ rfl; rw [Nat.add_zero, Nat.mul_one] at r0; have hxm := List.mem_of_getElem? hx; obtain ⟨zs, hz, hxl, hzc⟩ := HRd.out x hxm; have HTk := hide (Ly.stA_snoc (N := N) hx); have hfl := HFl.out x hxm; have HOS := hide (ownSlots_any (N.cl x) zs true wr (hz.on HB.out) hfl); have HCe : Hid (∀ (j : Nat) (u : Value), zs[j]? = some u -> wr.cell? ⟨x, j, none⟩ = some u) := hide fun j u hu => (HB.out.cell (p := ⟨x, j, none⟩) hxl).trans (hzc j u hu); have hla := Ly.stA_len (N := N) HFl.out k; have hlb := Ly.statC_len (N.cl x) hfl; obtain ⟨vi, vf, vm, rfl, x1, x2, x3, _⟩ := hz; obtain ⟨ia, ic, rfl, _⟩ := x1.len; obtain ⟨fa, fc, rfl, _⟩ := x2.len; obtain ⟨ma, mc, rfl, _⟩ := x3.len; have q0 := HCe.out 0 _ rfl; have q1 := HCe.out 1 _ rfl; have q2 := HCe.out 2 _ rfl; have q3 := HCe.out 3 _ rfl; have q4 := HCe.out 4 _ rfl; have q5 := HCe.out 5 _ rfl; simp only [clsXL] at HOS; clear HCe hc hx wf hxm hxl hzc hfl x1 x2 x3; have hlt' : (k : Int) < (q : Int) := by omega
      go_wp2_with fail; refine HOS.out.mono ?_; rintro e w5 ⟨v5, rfl, ho5, hb5⟩; have HO5 := hide (ho5.row shp_slt fun _ _ h => h); have HO2 := hide (HO.out.on hb5 fun _ _ h => h); have HB5 := hide (HB.out.trans (hb5.mono HB.out.size)); obtain ⟨sa, sc, rfl⟩ := ho5.shape; clear ho5 hb5 HOS HO HB q0 q1 q2 q3 q4 q5 r0; have hlb' : (Pp.ownL (N.cl x) true (N.cl x).fields).length <= 100 := hlb
      go_wp2_with (at_builtin; refine Ow.wpList_app rfl (.tmp 23) (.tmp 28) 59 rfl Tryz.underlying59 hj hj0 hj1 hj2 (by decide) shp_slt (by first | rfl | simp [Act.eval, Act.put]) HO2.out (by first | rfl | simp [Act.eval, Act.put]) HO5.out (by omega) (by decide) HB5.out.size ?_)
      intro v6 w6 ho6 hg6; have HB6 := hide (HB5.out.trans (Ow.bel_grown HO2.out HB5.out.size hg6)); rw [show Ly.stA N bs k ++ Pp.ownL (N.cl x) true (N.cl x).fields = Ly.stA N bs (k + 1) from HTk.out.symm] at ho6
      have HO6 := hide ho6; obtain ⟨xa, xc, hv6⟩ := ho6.shape; subst hv6; clear ho6 hg6 HO2 HO5 HB5 hlb hlb' hla; go_wp2_with fail
      go_roundw
      case rel => exact ⟨k + 1, xa, xc, _, by omega, by go_num, rfl, hide rfl, HB6, HO6⟩
      case measure => simp [intOf]; omega
    · have hkq : k = q := by omega
      subst hkq; have hnl : ¬ ((k : Int) < (k : Int)) := by omega
      have HO1 := HO; rw [HQ.out] at HO1; have HRw := hide (HO1.out.row shp_slt fun _ _ h => h); have HL2 := HLn; rw [HQ.out] at HL2; have hl2 := HL2.out; have HBw := hide (HB1.out.trans (HB.out.mono HB1.out.size)); subst hl2; clear HO1 HO HL2 HLn HB; go_wp2_with fail; refine bodyPost_ret (v := .tuple #[.slice la (Ly.staticsQ cs).length lc, .int .i64 0]) (by simp [results, Tryz.results13, go_sem]) rfl ?_
      rw [HZ.out]; exact ⟨_, rfl, HRw.out, HBw.out⟩
 · have hS : Ly.staticsQ cs = [] := by unfold Ly.staticsQ; rw [if_neg h0]
   have hv := hno h0; subst hv; have h0' : (Ly.layE cs != 0) = true := by simpa using h0
   have HSS := hide hS; clear hok hno hS; go_wp2_with fail; refine bodyPost_ret (v := .tuple #[.slice none 0 0, .int .i64 (Ly.layE cs)]) (by simp [results, Tryz.results13, go_sem]) rfl ?_
   rw [HSS.out]; exact ⟨_, rfl, ⟨none, 0, rfl, Nat.le_refl _, .inl rfl⟩, HB1.out⟩
namespace Ly
open Pp Hr
theorem class_SB : classQ someP [66] = some 10 := by
 unfold classQ; rw [place_SB]; simp only [face_SB]
 rfl
theorem slotsE_SB : slotsE someP [66] = 0 := by
 unfold slotsE; rw [if_pos lay_S, class_SB]
 rfl
theorem slotsQ_SB : slotsQ someP [66] = [⟨[65], [120], sT⟩, ⟨[66], [121], sT⟩] := by
 unfold slotsQ; rw [if_pos lay_S, class_SB, grow_S]; exact slots_SB
theorem staticsQ_S : staticsQ someP = [⟨[65], [115], sT⟩] := by
 unfold staticsQ; rw [if_pos lay_S]; exact statics_S
theorem methQ_SB : methQ someP [66] [102] = some ([65], sM) := by
 unfold methQ; rw [if_pos lay_S, class_SB, grow_S]; exact meth_SB
theorem callQ_SI : callQ someP [73] [102] = some sI := by
 unfold callQ; rw [if_pos lay_S, place_SI, grow_S]; simp only; rw [sig_some meth_SI]
 rfl
theorem light_E : Light [emptyC] := ⟨by decide, by
 intro c hc; simp only [List.mem_cons, List.not_mem_nil, or_false] at hc
 rcases hc with rfl
 simp [LtC, LtF, LtM, LtS, LtT, LtI, emptyC]⟩
end Ly
theorem empty_prog (w : World) : ProgX (w.alloc (.cells #[.string ⟨#[]⟩, .bool false, .string ⟨#[]⟩, .slice none 0 0, .slice none 0 0, .slice none 0 0] 36)) (.slice (some ⟨w.heap.size, 0, none⟩) 1 1) [Ly.emptyC] :=
 ⟨row_blk (cs := [.string ⟨#[]⟩, .bool false, .string ⟨#[]⟩, .slice none 0 0, .slice none 0 0, .slice none 0 0]) (heap_alloc_new w _) (Hr.shp_clsx _) ⟨_, [], (List.append_nil _).symm, ⟨_, _, _, rfl, row_no, row_no, row_no, by decide, by decide, by decide, by decide, by decide⟩, rfl⟩ rfl, by decide⟩
theorem lwakes_any (w : World) (ht : TabS w) :
 Calls Tryz.prog 7 #[] w fun e w' => e = .returned (.bool true) /\ Below w.heap.size w w' := by
 have HT := hide (fun wx (hb : Below w.heap.size w wx) => ht.below hb); clear ht; go_enter Tryz.func7, Tryz.ntmps7; go_wp2_with fail; refine (some_any w).mono ?_; rintro e w1 ⟨v, rfl, hp1, hb1⟩; obtain ⟨pa, pc, rfl, _⟩ := hp1.1.len; have hn3 : Ly.someP.length = 3 := rfl; rw [hn3] at hp1 ⊢; have hb2 := (Below.refl w1.heap.size w1).alloc (Nat.le_refl _) (.cells #[.slice pa 3 pc] 39); have hx2 := heap_alloc_new w1 (.cells #[.slice pa 3 pc] 39); have HP2 := hide (hp1.on hb2); have HB2 := hide (hb1.trans (hb2.mono hb1.size)); go_wp2_with fail; generalize w1.alloc (.cells #[.slice pa 3 pc] 39) = w2 at *
 have HC : Hid (∀ wx, Below w2.heap.size w2 wx -> wx.cell? ⟨w1.heap.size, 0, none⟩ = some (.slice pa 3 pc)) := hide fun wx hb => cell_box ((hb.block _ (Ow.lt_of_blk hx2)).trans hx2) 0; have HTx := hide (fun wx (hb : Below w2.heap.size w2 wx) => HT.out wx (HB2.out.trans (hb.mono HB2.out.size))); clear hp1 hb1 hb2 hx2 hn3 HT; have c2 := HC.out w2 (Below.refl _ _)
 -- Slots
 have hS := Slots_any Ly.someP _ [66] w2 (HTx.out _ (Below.refl _ _)) HP2.out Ly.light_S; rw [Ly.slotsE_SB, Ly.slotsQ_SB] at hS; go_wp2_with fail; refine hS.mono ?_; clear hS; rintro e w3 ⟨vl, rfl, hr3, hb3⟩; obtain ⟨la, lc, rfl, _⟩ := hr3.len; have hn2 : [(⟨[65], [120], Ly.sT⟩ : Pp.Slt), ⟨[66], [121], Ly.sT⟩].length = 2 := rfl; rw [hn2] at hr3 ⊢; obtain ⟨g, o, rfl, ys0, e0, hc0⟩ := Eq.row_at hr3 (k := 0) rfl; obtain ⟨g', o', hgo, ys1, e1, hc1⟩ := Eq.row_at hr3 (k := 1) rfl; cases hgo; obtain rfl : ys0 = _ := e0; obtain rfl : ys1 = _ := e1; have HB3 := hide hb3; have HR0 : Hid (∀ wx, Below w3.heap.size w3 wx -> wx.cell? ⟨g, o, none⟩ = some (.string ⟨#[65]⟩) /\ wx.cell? ⟨g, o + 4 + 1, none⟩ = some (.string ⟨#[121]⟩)) := hide fun wx hb => ⟨hc0 wx hb 0 _ rfl, hc1 wx hb 1 _ rfl⟩; have c3 := HC.out w3 hb3; clear hr3 hb3 hc0 hc1 c2 hn2
 -- Statics
 have hS := Statics_any Ly.someP _ w3 (HTx.out _ HB3.out) (HP2.out.on HB3.out) Ly.light_S; rw [Ly.lay_S, Ly.staticsQ_S] at hS; go_wp2_with fail; refine hS.mono ?_; clear hS; rintro e w4 ⟨vs, rfl, hr4, hb4⟩; obtain ⟨sa, sc, rfl, _⟩ := hr4.len; have hn1 : [(⟨[65], [115], Ly.sT⟩ : Pp.Slt)].length = 1 := rfl; rw [hn1] at hr4 ⊢; have HB4 := hide (HB3.out.trans (hb4.mono HB3.out.size)); have H4 := hide hb4; have c4 := HC.out w4 HB4.out; clear hr4 hb4 c3 hn1
 -- Method
 have hM := Method_any Ly.someP _ [66] [102] w4 (HTx.out _ HB4.out) (HP2.out.on HB4.out) Ly.light_S; rw [Ly.methQ_SB] at hM; go_wp2_with fail; refine hM.mono ?_; clear hM; rintro e w5 ⟨⟨ms, _, rfl, h1, _⟩, hb5⟩; obtain ⟨vp, vc, vk, rfl, x1, x2, x3, _⟩ := h1 _ rfl; obtain ⟨va1, vd1, rfl, _⟩ := x1.len; obtain ⟨va2, vd2, rfl, _⟩ := x2.len; obtain ⟨va3, vd3, rfl, _⟩ := x3.len; clear x1 x2 x3 h1; simp only [mthXL, List.toArray, Option.map_some, Option.getD_some, Option.isSome_some, Ly.sM, Ly.sT, List.length_nil, List.length_cons]; have hb5' := (Below.refl w5.heap.size w5).alloc (Nat.le_refl _) (.cells #[.string ⟨#[102]⟩, .bool false, .bool false, .slice va1 0 vd1, .int .i64 2, .string ⟨#[]⟩, .int .i64 1, .slice va2 2 vd2, .slice va3 0 vd3] 29); have hx5 := heap_alloc_new w5 (.cells #[.string ⟨#[102]⟩, .bool false, .bool false, .slice va1 0 vd1, .int .i64 2, .string ⟨#[]⟩, .int .i64 1, .slice va2 2 vd2, .slice va3 0 vd3] 29); have H5 := hide (H4.out.trans (hb5.trans (hb5'.mono hb5.size) |>.mono H4.out.size))
 have HB5 := hide (HB4.out.trans ((hb5.trans (hb5'.mono hb5.size)).mono HB4.out.size)); have c5 := HC.out _ HB5.out; go_wp2_with fail; generalize w5.alloc (.cells #[.string ⟨#[102]⟩, .bool false, .bool false, .slice va1 0 vd1, .int .i64 2, .string ⟨#[]⟩, .int .i64 1, .slice va2 2 vd2, .slice va3 0 vd3] 29) = w6 at *
 have HL5 : Hid (∀ wx, Below w6.heap.size w6 wx -> wx.cell? ⟨w5.heap.size, 7, none⟩ = some (.slice va2 2 vd2)) := hide fun wx hb => cell_box ((hb.block _ (Ow.lt_of_blk hx5)).trans hx5) 7; clear hb5 hb5' hx5 H4 c4
 -- Call
 have hM := Call_any Ly.someP _ [73] [102] w6 (HTx.out _ HB5.out) (HP2.out.on HB5.out) Ly.light_S; rw [Ly.callQ_SI] at hM; refine hM.mono ?_; clear hM; rintro e w7 ⟨⟨ms, _, rfl, h1, _⟩, hb7⟩; obtain ⟨vp, vc, vk, rfl, x1, x2, x3, _⟩ := h1 _ rfl; obtain ⟨ua1, ud1, rfl, _⟩ := x1.len; obtain ⟨ua2, ud2, rfl, _⟩ := x2.len; obtain ⟨ua3, ud3, rfl, _⟩ := x3.len; clear x1 x2 x3 h1; simp only [mthXL, List.toArray, Option.isSome_some, Ly.sI, Ly.sT, List.length_nil]; have hb7' := (Below.refl w7.heap.size w7).alloc (Nat.le_refl _) (.cells #[.string ⟨#[102]⟩, .bool false, .bool true, .slice ua1 0 ud1, .int .i64 2, .string ⟨#[]⟩, .int .i64 0, .slice ua2 0 ud2, .slice ua3 0 ud3] 29); have hx7 := heap_alloc_new w7 (.cells #[.string ⟨#[102]⟩, .bool false, .bool true, .slice ua1 0 ud1, .int .i64 2, .string ⟨#[]⟩, .int .i64 0, .slice ua2 0 ud2, .slice ua3 0 ud3] 29); have H7 := hide (hb7.trans (hb7'.mono hb7.size)); have HB7 := hide (HB5.out.trans (H7.out.mono HB5.out.size)); have HZ7 := hide (H5.out.trans (H7.out.mono H5.out.size)); have c7 := HC.out _ HB7.out; go_wp2_with fail; generalize w7.alloc (.cells #[.string ⟨#[102]⟩, .bool false, .bool true, .slice ua1 0 ud1, .int .i64 2, .string ⟨#[]⟩, .int .i64 0, .slice ua2 0 ud2, .slice ua3 0 ud3] 29) = w8 at *
 have HL7 : Hid (∀ wx, Below w8.heap.size w8 wx -> wx.cell? ⟨w7.heap.size, 2, none⟩ = some (.bool true)) := hide fun wx hb => cell_box ((hb.block _ (Ow.lt_of_blk hx7)).trans hx7) 2; clear hb7 hb7' hx7 c5
 -- Check
 have hK := lCheck_any Ly.someP _ w8 (HTx.out _ HB7.out) (HP2.out.on HB7.out) Ly.light_S; rw [Ly.lay_S] at hK; refine hK.mono ?_; clear hK; rintro e w9 ⟨rfl, hb9⟩; have HB9 := hide (HB7.out.trans (hb9.mono HB7.out.size)); have HZ9 := hide (HZ7.out.trans (hb9.mono HZ7.out.size)); obtain ⟨r0, r1⟩ := HR0.out w9 HZ9.out; have l5 := HL5.out w9 (H7.out.trans (hb9.mono H7.out.size)); have l7 := HL7.out w9 hb9; clear hb9 c7 HL5 HL7 HR0; have hb10 := (Below.refl w9.heap.size w9).alloc (Nat.le_refl _) (.cells #[.string ⟨#[]⟩, .bool false, .string ⟨#[]⟩, .slice none 0 0, .slice none 0 0, .slice none 0 0] 36); have HB10 := hide (HB9.out.trans (hb10.mono HB9.out.size)); have HE := hide (empty_prog w9); clear hb10; go_wp2_with fail; have hK := lCheck_any [Ly.emptyC] _ _ (HTx.out _ HB10.out) HE.out Ly.light_E; rw [Ly.lay_E] at hK; refine hK.mono ?_; clear hK; rintro e w11 ⟨rfl, hb11⟩; have HBz := hide (HB2.out.trans ((HB10.out.trans (hb11.mono HB10.out.size)).mono HB2.out.size)); clear hb11; go_wp2_with fail; go_ret; exact ⟨rfl, HBz.out⟩
namespace Ly
open Pp Hr
def oM (k : Int) : XMth := ⟨[102], false, false, [], sT, 1, [⟨1, k, [], []⟩, ⟨41, 0, [], []⟩], []⟩
def oR : XMth := ⟨[102], false, false, [], ⟨3, [65]⟩, 1, [⟨1, 2, [], []⟩, ⟨41, 0, [], []⟩], []⟩
def oQ : XMth := ⟨[102], false, false, [sT], sT, 1, [⟨1, 2, [], []⟩, ⟨41, 0, [], []⟩], []⟩
def oC (o : XMth) : List XCls := [⟨[65], false, [], [], [], [oM 1]⟩, ⟨[66], false, [65], [], [], [o]⟩, ⟨[67], false, [66], [], [], []⟩]
def upO : List (List Nat) := [[], [0], [1], [1], [1], [1], [1], [1], [0], [8], [9]]
theorem o_grow : growL (allL (oC (oM 2))) (allL (oC (oM 2))) = some upO := by decide +kernel
theorem o_lay0 : layE (oC (oM 2)) = 0 := by decide +kernel
theorem o_lay1 : layE (oC oR) = 8 := by decide +kernel
theorem o_lay2 : layE (oC oQ) = 8 := by decide +kernel
theorem o_placeC : placeL (allL (oC (oM 2))) [67] = some 10 := by decide +kernel
theorem o_placeA : placeL (allL (oC (oM 2))) [65] = some 8 := by decide +kernel
theorem o_faceC : (clP (allL (oC (oM 2))) 10).iface = false := by decide +kernel
theorem o_faceA : (clP (allL (oC (oM 2))) 8).iface = false := by decide +kernel
theorem o_methC : methP (pnet (allL (oC (oM 2))) upO) 10 [102] = some ([66], oM 2) := by kernel_rfl
theorem o_methA : methP (pnet (allL (oC (oM 2))) upO) 8 [102] = some ([65], oM 1) := by kernel_rfl
theorem o_C : methQ (oC (oM 2)) [67] [102] = some ([66], oM 2) := by
 unfold methQ classQ; rw [if_pos o_lay0, o_placeC, o_grow]; simp only [o_faceC]; exact o_methC
theorem o_A : methQ (oC (oM 2)) [65] [102] = some ([65], oM 1) := by
 unfold methQ classQ; rw [if_pos o_lay0, o_placeA, o_grow]; simp only [o_faceA]; exact o_methA
theorem o_none1 : methQ (oC oR) [67] [102] = none := by unfold methQ; rw [if_neg (by rw [o_lay1]; decide)]
theorem o_none2 : methQ (oC oQ) [67] [102] = none := by unfold methQ; rw [if_neg (by rw [o_lay2]; decide)]
theorem o_light {o : XMth} (h : LtM o) : Light (oC o) := ⟨by simp [oC], by
 intro c hc; simp only [oC, List.mem_cons, List.not_mem_nil, or_false] at hc
 rcases hc with rfl | rfl | rfl <;> simp [LtC, LtF, LtS, LtT, LtI, h]
 simp [LtM, oM, sT, LtI, LtT, LtK]⟩
theorem o_lt0 (k : Int) : LtM (oM k) := by simp [LtM, oM, sT, LtI, LtT, LtK]
theorem o_lt1 : LtM oR := by simp [LtM, oR, sT, LtI, LtT, LtK]
theorem o_lt2 : LtM oQ := by simp [LtM, oQ, sT, LtI, LtT, LtK]
end Ly
theorem wp_two {P : Program} {c : Code} {a : Act} {w : World} {Q : Exit -> Act -> World -> Prop} (A : Nat -> Nat -> Act) (R : Nat -> Nat -> World -> Prop) (h : c.wp P (fun e a wx => e = .normal /\ ∃ x y, a = A x y /\ R x y wx) a w) (g : ∀ x y wx, R x y wx -> Q .normal (A x y) wx) : c.wp P Q a w :=
 Code.wp_mono (fun _ _ wx ⟨h1, x, y, h2, h3⟩ => by subst h1 h2; exact g x y wx h3) h
theorem rem_three (n : Int) : (IntKind.u64.wrap n).tmod 3 = 0 \/ (IntKind.u64.wrap n).tmod 3 = 1 \/ (IntKind.u64.wrap n).tmod 3 = 2 := by
 have h0 : 0 <= IntKind.u64.wrap n := by rw [IntKind.wrap_u64]; omega
 generalize IntKind.u64.wrap n = u at h0; have h1 : 0 <= u.tmod 3 := Int.tmod_nonneg _ h0; have h2 : u.tmod 3 < 3 := Int.tmod_lt_of_pos _ (by omega)
 omega
def toldO (k : Int) : Obj := .cells #[.int .i64 1, .int .i64 k, .string ⟨#[]⟩, .string ⟨#[]⟩, .int .i64 41, .int .i64 0, .string ⟨#[]⟩, .string ⟨#[]⟩] 45
theorem told_any (k : Int) (w : World) :
 Calls Tryz.prog 4 #[.int .i64 k] w fun e w' => ∃ c, e = .returned (.slice (some ⟨c, 0, none⟩) 2 2) /\ w'.heap[c]? = some (toldO k) /\ Below w.heap.size w w' /\ w.heap.size <= c := by
 have hx := hide (heap_alloc_new w (toldO k)); have hb := hide ((Below.refl w.heap.size w).alloc (Nat.le_refl _) (toldO k)); unfold toldO at hx hb; go_enter Tryz.func4, Tryz.ntmps4; go_wp2_with fail; go_ret; exact ⟨_, rfl, hx.out, hb.out, Nat.le_refl _⟩
theorem told_row {w : World} {c : Nat} {k : Int} (h : w.heap[c]? = some (toldO k)) : RowX w 4 InsX (.slice (some ⟨c, 0, none⟩) 2 2) (Ly.oM k).code :=
 row_blk (cs := [.int .i64 1, .int .i64 k, .string ⟨#[]⟩, .string ⟨#[]⟩, .int .i64 41, .int .i64 0, .string ⟨#[]⟩, .string ⟨#[]⟩]) h Ow.shp_ins ⟨[_, _, _, _], _, rfl, ⟨rfl, Nat.zero_le _, Nat.zero_le _⟩, [_, _, _, _], _, rfl, ⟨rfl, Nat.zero_le _, Nat.zero_le _⟩, rfl⟩ rfl
def overO (s : Nat) (ms os : List Value) : List Obj := [
 .cells ms.toArray 29,
 .cells os.toArray 29,
 .cells #[.string ⟨#[65]⟩, .bool false, .string ⟨#[]⟩, .slice none 0 0, .slice none 0 0, .slice (some ⟨s, 0, none⟩) 1 1,
  .string ⟨#[66]⟩, .bool false, .string ⟨#[65]⟩, .slice none 0 0, .slice none 0 0, .slice (some ⟨s + 1, 0, none⟩) 1 1,
  .string ⟨#[67]⟩, .bool false, .string ⟨#[66]⟩, .slice none 0 0, .slice none 0 0, .slice none 0 0] 36,
 .cells #[.slice (some ⟨s + 1 + 1, 0, none⟩) 3 3] 39]
theorem over_prog (w : World) (o : Pp.XMth) (ms os : List Value) (hm : MthX w (Ly.oM 1) ms) (ho : MthX w o os) : ProgX ((overO w.heap.size ms os).foldl World.alloc w) (.slice (some ⟨w.heap.size + 1 + 1, 0, none⟩) 3 3) (Ly.oC o) := by
 have h0 := allocs (overO w.heap.size ms os) w 0 (by simp [overO])
 have h1 := allocs (overO w.heap.size ms os) w 1 (by simp [overO])
 have h2 := allocs (overO w.heap.size ms os) w 2 (by simp [overO])
 have hB := allocs_below (overO w.heap.size ms os) w; have hm := hm.on hB; have ho := ho.on hB; generalize (overO w.heap.size ms os).foldl World.alloc w = W at *
 clear hB; generalize w.heap.size = s at *
 have r1 : RowX W 9 (MthX W) (.slice (some ⟨s, 0, none⟩) 1 1) [Ly.oM 1] := row_blk (cs := ms) h0 (Ow.shp_mthx W) ⟨_, [], (List.append_nil _).symm, hm, rfl⟩ rfl; have r2 : RowX W 9 (MthX W) (.slice (some ⟨s + 1, 0, none⟩) 1 1) [o] := row_blk (cs := os) h1 (Ow.shp_mthx W) ⟨_, [], (List.append_nil _).symm, ho, rfl⟩ rfl
 exact ⟨row_blk (cs := [.string ⟨#[65]⟩, .bool false, .string ⟨#[]⟩, .slice none 0 0, .slice none 0 0, .slice (some ⟨s, 0, none⟩) 1 1,
  .string ⟨#[66]⟩, .bool false, .string ⟨#[65]⟩, .slice none 0 0, .slice none 0 0, .slice (some ⟨s + 1, 0, none⟩) 1 1,
  .string ⟨#[67]⟩, .bool false, .string ⟨#[66]⟩, .slice none 0 0, .slice none 0 0, .slice none 0 0]) h2 (Hr.shp_clsx W)
  ⟨[_, _, _, _, _, _], _, rfl, ⟨_, _, _, rfl, row_no, row_no, r1, by decide, by decide, by decide, by decide, by decide⟩,
   [_, _, _, _, _, _], _, rfl, ⟨_, _, _, rfl, row_no, row_no, r2, by unfold maxLen; simp, by unfold maxLen; simp, by unfold maxLen; simp, by unfold maxLen; simp, by unfold maxLen; simp⟩,
   [_, _, _, _, _, _], _, rfl, ⟨_, _, _, rfl, row_no, row_no, row_no, by decide, by decide, by decide, by decide, by decide⟩, rfl⟩ rfl, by unfold maxLen; simp [Ly.oC]⟩
open Go.ChangeShapes Go.WideShapes Go.ChangeAt Go.RowKit
theorem own : ownKnob Tryz.prog.godebug = none := by kernel_rfl
def strsData {H : Type} (ls : List (List UInt8)) : DataW H := .agg (ls.map fun l => .lit (.string l))
theorem cells_of_strs {H : Type} {enc : TypeId × Value -> H} {P : Program} {w : World} {base : Nat} {sp : Nat -> Bool} {held : Bool} {fuel : Nat} {t e : TypeId} {n : Nat} {cs : List Value} {ls : List (List UInt8)} {p : List MemPlace}
 (ht : P.underlying t = some (.array n e)) (he : P.underlying e = some .string) (hce : P.cellsOf e = 1) (hct : P.cellsOf t = n)
 (h : DataW.trod enc P w base sp held fuel t cs = some (strsData ls, p)) : cs = ls.map fun l => Value.string ⟨l.toArray⟩ := by
 cases fuel with
 | zero => simp [DataW.trod] at h
 | succ fuel =>
   simp only [DataW.trod, ht, hce, hct, Nat.mul_one] at h
   split at h
   · rename_i hl
     obtain ⟨xs, hm, hx⟩ := Option.map_eq_some_iff.1 h
     have hxs : xs.map (·.1) = ls.map fun l => (DataW.lit (.string l) : DataW H) := by
      have := congrArg Prod.fst hx
      simpa [strsData] using this
     have hxl : xs.length = n := by simpa using Lib.mapM_length hm
     have hzl : ls.length = n := by
      have := congrArg List.length hxs; simp at this; omega
     apply List.ext_getElem?; intro i; by_cases hi : i < n
     · obtain ⟨b, hb, hf⟩ := Lib.mapM_at hm i i (by simp [hi])
       obtain ⟨z, hc, rfl, _⟩ := DataW.trod_string he hf
       have h1 : cs[i]? = some (.string z) := by
        have := congrArg (·[0]?) hc
        simpa [List.getElem?_take, List.getElem?_drop] using this
       have h2 : (xs.map (·.1))[i]? = some (DataW.lit (.string z.data.toList) : DataW H) := by simp [hb]
       rw [hxs] at h2; simp only [List.getElem?_map, Option.map_eq_some_iff, DataW.lit.injEq, Lit.string.injEq] at h2; obtain ⟨z', hz', e'⟩ := h2; rw [h1, List.getElem?_map, hz']; simp [e']
     · rw [List.getElem?_eq_none (by omega), List.getElem?_eq_none (by simp; omega)]
   · cases h
theorem strs_of_head {P : Program} {W : World} {name : String} {ls : List (List UInt8)} {g : Nat} {t e : TypeId} {n : Nat}
 (hg : P.globalNamed name = some g) (hty : (P.globals[g]?).map (·.type) = some t) (ht : P.underlying t = some (.array n e)) (he : P.underlying e = some .string) (hce : P.cellsOf e = 1) (hct : P.cellsOf t = n)
 (h : laidMet P [(name, strsData ls)] W) : ∀ i l, ls[i]? = some l -> W.cell? ⟨g, i, none⟩ = some (strV l) := by
 obtain ⟨ps, ⟨g', t', cs, fuel, p, q, hg', ht', hvar, hd, _, _⟩, _⟩ := h; obtain rfl := Option.some.inj (hg.symm.trans hg'); obtain rfl := Option.some.inj (hty.symm.trans ht'); have hcs := cells_of_strs ht he hce hct hd; intro i l hl; have h1 := World.var?_cell hg hvar i; rw [h1]; have h2 : cs.toList[i]? = some (Value.string ⟨l.toArray⟩) := by rw [hcs]; simp [hl]
 simpa [strV] using h2
theorem keptData : (Rows.laid_delver_parse_kept : DataW Unit) = strsData Pp.keptWords := by kernel_rfl
theorem wordsData : (Rows.laid_delver_parse_words : DataW Unit) = strsData Pp.opWords := by kernel_rfl
theorem table {W : World} {laid : List (String × DataW Unit)} (h : laidMetH Tryz.prog laid W) (e1 : (laid.filter fun x => x.1 == "delver/parse.kept") = [("delver/parse.kept", Rows.laid_delver_parse_kept)]) (e2 : (laid.filter fun x => x.1 == "delver/parse.words") = [("delver/parse.words", Rows.laid_delver_parse_words)]) : TabS W := by
 have h1 := h.filter fun x => x.1 == "delver/parse.kept"; rw [e1, keptData] at h1; have h2 := h.filter fun x => x.1 == "delver/parse.words"; rw [e2, wordsData] at h2; have g1 : laidMet Tryz.prog [("delver/parse.kept", strsData Pp.keptWords)] W := h1; have g2 : laidMet Tryz.prog [("delver/parse.words", strsData Pp.opWords)] W := h2; exact ⟨strs_of_head (by kernel_rfl) (by kernel_rfl) Tryz.underlying184 Tryz.underlying9 (by kernel_rfl) (by kernel_rfl) g2, strs_of_head (by kernel_rfl) (by kernel_rfl) Tryz.underlying170 Tryz.underlying9 (by kernel_rfl) (by kernel_rfl) g1⟩
def valOf : DataW Unit -> Value
 | .lit (.int k n) => .int k n
 | .lit (.string l) => .string ⟨l.toArray⟩
 | _ => undef
def tabCells : DataW Unit -> Array Value
 | .agg ds => (ds.map valOf).toArray
 | _ => #[]
def putTab (d : DataW Unit) : Obj -> Obj
 | .cells _ t f => .cells (tabCells d) t f
 | o => o
def laidWorld (P : Program) (os : Os) : World :=
 { World.holding P os ⟨#[], #[], []⟩ with heap := ((World.holding P os ⟨#[], #[], []⟩).heap.modify 1 (putTab Rows.laid_delver_parse_words)).modify 0 (putTab Rows.laid_delver_parse_kept) }
end Go.Proofs.YtjlappamkfjlkabGreatDoor

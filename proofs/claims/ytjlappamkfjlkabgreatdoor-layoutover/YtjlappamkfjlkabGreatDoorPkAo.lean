/- What the laws of this seat lean on: 7 texts. -/
import Derived.Test.YtjlappamkfjlkabGreatDoorPkAi
import Derived.Test.YtjlappamkfjlkabGreatDoorPkAm
import Derived.Test.YtjlappamkfjlkabGreatDoorPkAj
import Derived.Test.YtjlappamkfjlkabGreatDoorPkAn
import Derived.Deep.RegionHeld3
set_option maxRecDepth 100000
set_option maxHeartbeats 64000000
set_option linter.unusedVariables false
set_option linter.unusedSimpArgs false
namespace Go.Proofs.YtjlappamkfjlkabGreatDoor
open Go.RowKit
namespace Ly
open Pp
def sT : Ty := ⟨2, []⟩
def sM : XMth := ⟨[102], false, false, [], sT, 1, [⟨1, 1, [], []⟩, ⟨41, 0, [], []⟩], []⟩
def sI : XMth := ⟨[102], false, true, [], sT, 0, [], []⟩
def sCI : XCls := ⟨[73], true, [], [], [], [sI]⟩
def sCA : XCls := ⟨[65], false, [], [[73]], [⟨[120], sT, false⟩, ⟨[115], sT, true⟩], [sM]⟩
def sCB : XCls := ⟨[66], false, [65], [], [⟨[121], sT, false⟩], []⟩
def someP : List XCls := [sCI, sCA, sCB]
end Ly
theorem allocs (os : List Obj) (w : World) (i : Nat) (h : i < os.length) : (os.foldl World.alloc w).heap[w.heap.size + i]? = os[i]? := by
 induction os generalizing w i with
 | nil => cases h
 | cons o os ih =>
   rw [List.foldl_cons]; cases i with
   | zero =>
     have hb : ∀ (os : List Obj) (w : World), Below w.heap.size w (os.foldl World.alloc w) := by
      intro os
      induction os with
      | nil => exact fun w => Below.refl _ _
      | cons o os ih => exact fun w => ((Below.refl _ _).alloc (Nat.le_refl _) o).trans ((ih _).mono (by simp))
     have h1 := heap_alloc_new w o; exact ((hb os _).block _ (by simp)).trans h1
   | succ i =>
     have h1 := ih (w.alloc o) i (by simpa using h)
     rw [show (w.alloc o).heap.size = w.heap.size + 1 by simp] at h1
     rw [show w.heap.size + (i + 1) = w.heap.size + 1 + i by omega]
     exact h1
theorem allocs_below (os : List Obj) (w : World) : Below w.heap.size w (os.foldl World.alloc w) := by
 induction os generalizing w with
 | nil => exact Below.refl _ _
 | cons o os ih => exact ((Below.refl _ _).alloc (Nat.le_refl _) o).trans ((ih _).mono (by simp))
theorem row_blk {α : Type} {w : World} {b sz n : Nat} {t : TypeId} {cs : List Value} {P : α -> List Value -> Prop} {l : List α} (h : w.heap[b]? = some (.cells cs.toArray t (0, 0))) (hs : Ow.Shp P sz) (hf : Ow.Flat P l cs) (hn : l.length = n) : RowX w sz P (.slice (some ⟨b, 0, none⟩) n n) l := by
 subst hn; refine ⟨_, _, rfl, Nat.le_refl _, .inr ⟨b, 0, rfl, Ow.lt_of_blk h, fun k x hk => ?_⟩⟩; obtain ⟨ys, h1, h2⟩ := hf.at hs k x hk; exact ⟨ys, h1, fun j u hj => by rw [Nat.zero_add, cell_box h]; simpa using h2 j u hj⟩
theorem row_no {α : Type} {w : World} {sz : Nat} {P : α -> List Value -> Prop} : RowX w sz P (.slice none 0 0) ([] : List α) := ⟨none, 0, rfl, Nat.le_refl _, .inl rfl⟩
def someO (s : Nat) : List Obj := [
 .cells #[.slice (some ⟨s + 1 + 1 + 1 + 1 + 1 + 1 + 1 + 1 + 1, 0, none⟩) 3 3] 39,
 .cells #[.int .i64 2, .string ⟨#[]⟩] 23,
 .cells #[.int .i64 1, .int .i64 1, .string ⟨#[]⟩, .string ⟨#[]⟩, .int .i64 41, .int .i64 0, .string ⟨#[]⟩, .string ⟨#[]⟩] 45,
 .cells #[.string ⟨#[102]⟩, .bool false, .bool false, .slice none 0 0, .int .i64 2, .string ⟨#[]⟩, .int .i64 1, .slice (some ⟨s + 1 + 1, 0, none⟩) 2 2, .slice none 0 0] 29,
 .cells #[.string ⟨#[102]⟩, .bool false, .bool true, .slice none 0 0, .int .i64 2, .string ⟨#[]⟩, .int .i64 0, .slice none 0 0, .slice none 0 0] 29,
 .cells #[.string ⟨#[73]⟩] 9,
 .cells #[.string ⟨#[120]⟩, .int .i64 2, .string ⟨#[]⟩, .bool false, .string ⟨#[115]⟩, .int .i64 2, .string ⟨#[]⟩, .bool true] 88,
 .cells #[.string ⟨#[102]⟩, .bool false, .bool false, .slice none 0 0, .int .i64 2, .string ⟨#[]⟩, .int .i64 1, .slice (some ⟨s + 1 + 1, 0, none⟩) 2 2, .slice none 0 0] 29,
 .cells #[.string ⟨#[121]⟩, .int .i64 2, .string ⟨#[]⟩, .bool false] 88,
 .cells #[.string ⟨#[73]⟩, .bool true, .string ⟨#[]⟩, .slice none 0 0, .slice none 0 0, .slice (some ⟨s + 1 + 1 + 1 + 1, 0, none⟩) 1 1,
  .string ⟨#[65]⟩, .bool false, .string ⟨#[]⟩, .slice (some ⟨s + 1 + 1 + 1 + 1 + 1, 0, none⟩) 1 1, .slice (some ⟨s + 1 + 1 + 1 + 1 + 1 + 1, 0, none⟩) 2 2, .slice (some ⟨s + 1 + 1 + 1 + 1 + 1 + 1 + 1, 0, none⟩) 1 1,
  .string ⟨#[66]⟩, .bool false, .string ⟨#[65]⟩, .slice none 0 0, .slice (some ⟨s + 1 + 1 + 1 + 1 + 1 + 1 + 1 + 1, 0, none⟩) 1 1, .slice none 0 0] 36]
theorem some_prog (w : World) : ProgX ((someO w.heap.size).foldl World.alloc w) (.slice (some ⟨w.heap.size + 1 + 1 + 1 + 1 + 1 + 1 + 1 + 1 + 1, 0, none⟩) 3 3) Ly.someP := by
 have h2 := allocs (someO w.heap.size) w 2 (show 2 < 10 by decide)
 have h4 := allocs (someO w.heap.size) w 4 (show 4 < 10 by decide)
 have h5 := allocs (someO w.heap.size) w 5 (show 5 < 10 by decide)
 have h6 := allocs (someO w.heap.size) w 6 (show 6 < 10 by decide)
 have h7 := allocs (someO w.heap.size) w 7 (show 7 < 10 by decide)
 have h8 := allocs (someO w.heap.size) w 8 (show 8 < 10 by decide)
 have h9 := allocs (someO w.heap.size) w 9 (show 9 < 10 by decide)
 generalize hW : (someO w.heap.size).foldl World.alloc w = W at *
 generalize w.heap.size = s at *
 clear hW; have r2 : RowX W 4 InsX (.slice (some ⟨s + 1 + 1, 0, none⟩) 2 2) Ly.sM.code := row_blk (cs := [.int .i64 1, .int .i64 1, .string ⟨#[]⟩, .string ⟨#[]⟩, .int .i64 41, .int .i64 0, .string ⟨#[]⟩, .string ⟨#[]⟩]) h2 Ow.shp_ins ⟨[_, _, _, _], _, rfl, ⟨rfl, by decide, by decide⟩, [_, _, _, _], _, rfl, ⟨rfl, by decide, by decide⟩, rfl⟩ rfl
 have m1 : MthX W Ly.sM [.string ⟨#[102]⟩, .bool false, .bool false, .slice none 0 0, .int .i64 2, .string ⟨#[]⟩, .int .i64 1, .slice (some ⟨s + 1 + 1, 0, none⟩) 2 2, .slice none 0 0] := ⟨_, _, _, rfl, row_no, r2, row_no, by decide, by decide, by decide, by decide, by decide⟩
 have m2 : MthX W Ly.sI [.string ⟨#[102]⟩, .bool false, .bool true, .slice none 0 0, .int .i64 2, .string ⟨#[]⟩, .int .i64 0, .slice none 0 0, .slice none 0 0] := ⟨_, _, _, rfl, row_no, row_no, row_no, by decide, by decide, by decide, by decide, by decide⟩
 have r4 : RowX W 9 (MthX W) (.slice (some ⟨s + 1 + 1 + 1 + 1, 0, none⟩) 1 1) Ly.sCI.methods := row_blk (cs := _) h4 (Ow.shp_mthx W) ⟨_, [], (List.append_nil _).symm, m2, rfl⟩ rfl; have r5 : RowX W 1 StrX (.slice (some ⟨s + 1 + 1 + 1 + 1 + 1, 0, none⟩) 1 1) Ly.sCA.ifaces := row_blk (cs := _) h5 Ow.shp_str ⟨_, [], (List.append_nil _).symm, ⟨rfl, by decide⟩, rfl⟩ rfl
 have r6 : RowX W 4 FldX (.slice (some ⟨s + 1 + 1 + 1 + 1 + 1 + 1, 0, none⟩) 2 2) Ly.sCA.fields := row_blk (cs := [.string ⟨#[120]⟩, .int .i64 2, .string ⟨#[]⟩, .bool false, .string ⟨#[115]⟩, .int .i64 2, .string ⟨#[]⟩, .bool true]) h6 Ow.shp_fld ⟨[_, _, _, _], _, rfl, ⟨rfl, by decide, by decide⟩, [_, _, _, _], _, rfl, ⟨rfl, by decide, by decide⟩, rfl⟩ rfl
 have r7 : RowX W 9 (MthX W) (.slice (some ⟨s + 1 + 1 + 1 + 1 + 1 + 1 + 1, 0, none⟩) 1 1) Ly.sCA.methods := row_blk (cs := _) h7 (Ow.shp_mthx W) ⟨_, [], (List.append_nil _).symm, m1, rfl⟩ rfl; have r8 : RowX W 4 FldX (.slice (some ⟨s + 1 + 1 + 1 + 1 + 1 + 1 + 1 + 1, 0, none⟩) 1 1) Ly.sCB.fields := row_blk (cs := _) h8 Ow.shp_fld ⟨_, [], (List.append_nil _).symm, ⟨rfl, by decide, by decide⟩, rfl⟩ rfl
 exact ⟨row_blk (cs := [.string ⟨#[73]⟩, .bool true, .string ⟨#[]⟩, .slice none 0 0, .slice none 0 0, .slice (some ⟨s + 1 + 1 + 1 + 1, 0, none⟩) 1 1,
  .string ⟨#[65]⟩, .bool false, .string ⟨#[]⟩, .slice (some ⟨s + 1 + 1 + 1 + 1 + 1, 0, none⟩) 1 1, .slice (some ⟨s + 1 + 1 + 1 + 1 + 1 + 1, 0, none⟩) 2 2, .slice (some ⟨s + 1 + 1 + 1 + 1 + 1 + 1 + 1, 0, none⟩) 1 1,
  .string ⟨#[66]⟩, .bool false, .string ⟨#[65]⟩, .slice none 0 0, .slice (some ⟨s + 1 + 1 + 1 + 1 + 1 + 1 + 1 + 1, 0, none⟩) 1 1, .slice none 0 0]) h9 (Hr.shp_clsx W)
  ⟨[_, _, _, _, _, _], _, rfl, ⟨_, _, _, rfl, row_no, row_no, r4, by decide, by decide, by decide, by decide, by decide⟩,
   [_, _, _, _, _, _], _, rfl, ⟨_, _, _, rfl, r5, r6, r7, by decide, by decide, by decide, by decide, by decide⟩,
   [_, _, _, _, _, _], _, rfl, ⟨_, _, _, rfl, row_no, r8, row_no, by decide, by decide, by decide, by decide, by decide⟩, rfl⟩ rfl, by decide⟩
theorem some_any (w : World) :
 Calls Tryz.prog 11 #[] w fun e w' => ∃ v, e = .returned (.agg #[v]) /\ ProgX w' v Ly.someP /\ Below w.heap.size w w' := by
 have HP := hide (some_prog w); have HB := hide (allocs_below (someO w.heap.size) w); have H0 := hide (allocs (someO w.heap.size) w 0 (show 0 < 10 by decide))
 go_enter Tryz.func11, Tryz.ntmps11; go_wp2_with fail; refine bodyPost_ret (v := .agg #[.slice (some ⟨w.heap.size + 1 + 1 + 1 + 1 + 1 + 1 + 1 + 1 + 1, 0, none⟩) 3 3]) ?_ rfl ?_
 · have c0 := cell_box H0.out 0
   simp [results, Tryz.results11, go_sem]
 · exact ⟨_, rfl, HP.out, HB.out⟩
namespace Ly
open Pp Hr
def upS : List (List Nat) := [[], [0], [1], [1], [1], [1], [1], [1], [], [0, 8], [9]]
theorem grow_S : growL (allL someP) (allL someP) = some upS := by decide +kernel
theorem lay_S : layE someP = 0 := by decide +kernel
theorem place_SB : placeL (allL someP) [66] = some 10 := by decide +kernel
theorem place_SI : placeL (allL someP) [73] = some 8 := by decide +kernel
theorem face_SB : (clP (allL someP) 10).iface = false := by decide +kernel
theorem slots_SB : (pnet (allL someP) upS).sl 10 = [⟨[65], [120], sT⟩, ⟨[66], [121], sT⟩] := by kernel_rfl
theorem statics_S : ((allL someP).flatMap fun c => ownL c true c.fields) = [⟨[65], [115], sT⟩] := by kernel_rfl
theorem meth_SB : methP (pnet (allL someP) upS) 10 [102] = some ([65], sM) := by kernel_rfl
theorem meth_SI : methP (pnet (allL someP) upS) 8 [102] = some ([73], sI) := by kernel_rfl
def emptyC : XCls := ⟨[], false, [], [], [], []⟩
theorem lay_E : layE [emptyC] = 4 := by decide +kernel
theorem light_S : Light someP := ⟨by decide, by
 intro c hc; simp only [someP, List.mem_cons, List.not_mem_nil, or_false] at hc
 rcases hc with rfl | rfl | rfl <;> simp [LtC, LtF, LtM, LtS, LtT, LtI, sCI, sCA, sCB, sM, sI, sT]⟩
end Ly
theorem Rdy.face {N : Net} {w0 w : World} {A : Nat -> Prop} (h : Rdy N w0 w A) {b : Nat} (hb : N.T b) : w.cell? ⟨b, 1, none⟩ = some (.bool (N.cl b).iface) := by
 obtain ⟨cs, ys, h1, ⟨vi, vf, vm, rfl, _⟩, h2⟩ := h.cls hb; exact h2.1 1 _ rfl
namespace Ly
open Pp Hr
theorem classQ_lt {cs : List XCls} {n : Bs} {k : Nat} (h : classQ cs n = some k) : placeL (allL cs) n = some k /\ k < (allL cs).length /\ (clP (allL cs) k).iface = false := by
 unfold classQ at h; cases hp : placeL (allL cs) n with
 | none => rw [hp] at h; cases h
 | some j =>
   rw [hp] at h; simp only at h
   split at h
   · cases h
   · rename_i hi
     cases h; obtain ⟨c, hc, _⟩ := placeL_lt hp; exact ⟨rfl, (List.getElem?_eq_some_iff.1 hc).1, by simpa using hi⟩
def slotsE (cs : List XCls) (n : Bs) : Int := if layE cs = 0 then (if (classQ cs n).isSome then 0 else 5) else layE cs
def slotsQ (cs : List XCls) (n : Bs) : List Slt := if layE cs = 0 then (match classQ cs n, growL (allL cs) (allL cs) with
 | some k, some up => (pnet (allL cs) up).sl k
 | _, _ => []) else []
end Ly
theorem tclass_any {cs : List Pp.XCls} {up : List (List Nat)} {bs : List Nat} (hn : bs.Nodup) (hl : bs.length = (Hr.allL cs).length) (hm : bs.length <= 1000) (v : Value) (n : Pp.Bs) (w0 w : World) (A : Nat -> Prop) (h : RowX w 1 PtrX v bs) (hr : Rdy (Ly.bnet (Hr.allL cs) up bs) w0 w A) :
 Calls Tryz.prog 9 #[v, .string ⟨n.toArray⟩] w fun e w' => e = .returned (.tuple #[.pointer ((Ly.classQ cs n).map fun k => ⟨bs.getD k 0, 0, none⟩), .bool (Ly.classQ cs n).isSome]) /\ w' = w := by
 have hf := tfind_any bs (fun b => ((Ly.bnet (Hr.allL cs) up bs).cl b).name) v n w h hm (fun b hb => hr.name hb); obtain ⟨a, c, rfl, _⟩ := h.len; rw [Ly.bfind (up := up) hn hl n] at hf; cases hp : Hr.placeL (Hr.allL cs) n with
 | none =>
   rw [hp] at hf; have h1 := lclass_any none false a bs.length c n w hf (fun b hb => by cases hb)
   have h2 : Ly.classQ cs n = none := by unfold Ly.classQ; rw [hp]
   rw [h2]; exact h1
 | some k =>
   rw [hp] at hf; obtain ⟨x, hx, _⟩ := Hr.placeL_lt hp; have hk : k < bs.length := by rw [hl]; exact (List.getElem?_eq_some_iff.1 hx).1
   have hT : (Ly.bnet (Hr.allL cs) up bs).T (bs.getD k 0) := by
    show bs.getD k 0 ∈ bs; rw [show bs.getD k 0 = bs[k] by simp [List.getD, List.getElem?_eq_getElem hk]]
    exact List.getElem_mem hk
   have h1 := lclass_any (some (bs.getD k 0)) (Ly.clP (Hr.allL cs) k).iface a bs.length c n w hf (fun b hb => by
    cases hb; rw [hr.face hT]; show some (Value.bool (Ly.clP (Hr.allL cs) (bs.idxOf (bs.getD k 0))).iface) = _
    rw [Ly.idx_get hn hk])
   have h2 : Ly.classQ cs n = if (Ly.clP (Hr.allL cs) k).iface = true then none else some k := by unfold Ly.classQ; rw [hp]
   rw [h2]; cases hi : (Ly.clP (Hr.allL cs) k).iface with
   | true => rw [hi] at h1; exact h1
   | false => rw [hi] at h1; exact h1
theorem Slots_any (cs : List Pp.XCls) (v : Value) (n : Pp.Bs) (w : World) (ht : TabS w) (h : ProgX w v cs) (hl : Pp.Light cs) :
 Calls Tryz.prog 12 #[.agg #[v], .string ⟨n.toArray⟩] w fun e w' => ∃ v', e = .returned (.tuple #[v', .int .i64 (Ly.slotsE cs n)]) /\ RowX w' 4 SltX v' (Ly.slotsQ cs n) /\ Below w.heap.size w w' := by
 have HC := hide (fun wx (hb : Below w.heap.size w wx) => tablesOf_any cs v wx (ht.below hb) (h.on hb) hl); obtain ⟨pa, pc, rfl, _⟩ := h.1.len; clear h ht hl; generalize cs.length = m at *
 have hx0 := heap_alloc_new w (.cells #[.slice pa m pc] 39); have HB0 := hide ((Below.refl w.heap.size w).alloc (Nat.le_refl _) (.cells #[.slice pa m pc] 39)); have c0 := cell_box hx0 0; clear hx0; go_enter Tryz.func12, Tryz.ntmps12; go_wp2_with fail; generalize w.alloc (.cells #[.slice pa m pc] 39) = wa at *
 refine (HC.out wa HB0.out).mono ?_; rintro e w1 ⟨vb, rfl, hok, hno, hb1⟩; have HB1 := hide (HB0.out.trans (hb1.mono HB0.out.size)); have HS0 := hide HB0.out.size; clear HC hb1 HB0 c0; by_cases h0 : Ly.layE cs = 0
 · obtain ⟨up, bs, w0, he, hg, hnd, hlen, hlow, hr, hst⟩ := hok h0
   have hOk := Ly.netOk he hg hnd hlen; have HCl := hide (tclass_any hnd hlen hOk.len vb n w0 w1 _ hst.row hr)
   have HSl : Hid (∀ k, Ly.classQ cs n = some k -> Ly.slotsQ cs n = (Ly.bnet (Hr.allL cs) up bs).sl (bs.getD k 0)) := hide fun k hk => by
    unfold Ly.slotsQ; rw [if_pos h0, hk, hg]; exact ((Ly.bnet_img up hnd hlen).sl' (Ly.pnet_good he hg) k (Ly.classQ_lt hk).2.1).symm
   have HSn : Hid (Ly.classQ cs n = none -> Ly.slotsQ cs n = []) := hide fun hk => by unfold Ly.slotsQ; rw [if_pos h0, hk]
   have HMd : Hid (∀ k, Ly.classQ cs n = some k -> Calls Tryz.prog 21 #[.pointer (some ⟨bs.getD k 0, 0, none⟩)] w1 _) := hide fun k hk => made_rdy _ hOk.good hOk.small w0 (bs.getD k 0) ((Ly.bnet_img up hnd hlen).mk_T (Ly.classQ_lt hk).2.1) w1 _ hr; have HLo : Hid (∀ k, k ∈ bs -> w.heap.size <= k) := hide fun k hk => Nat.le_trans (Nat.le_trans HS0.out hlow) (hr.2.2.1 k hk).1; have HE : Hid (Ly.slotsE cs n = if (Ly.classQ cs n).isSome then 0 else 5) := hide (by unfold Ly.slotsE; rw [if_pos h0])
   rw [h0]; obtain ⟨ba, bc, rfl, _⟩ := hst.row.len; clear hok hno he hg hnd hlen hlow hr hst hOk h0 HS0; generalize bs.length = q at *
   go_wp2_with fail; refine HCl.out.mono ?_; clear HCl; rintro e w2 ⟨rfl, rfl⟩; cases hq : Ly.classQ cs n with
   | none =>
     have hs := HSn.out hq; have hE := HE.out; rw [hq] at hE; have HSS := hide hs; have HEE := hide hE; clear HSl HSn HMd HLo HE hq hs hE; go_wp2_with fail; refine bodyPost_ret (v := .tuple #[.slice none 0 0, .int .i64 5]) (by simp [results, Tryz.results12, go_sem]) rfl ?_
     rw [HSS.out, HEE.out]; exact ⟨_, rfl, ⟨none, 0, rfl, Nat.le_refl _, .inl rfl⟩, HB1.out⟩
   | some k =>
     have hs := HSl.out k hq; have hE := HE.out; rw [hq] at hE; have HSS := hide hs; have HEE := hide hE; have HM := hide (HMd.out k hq); clear HSl HSn HMd HE hq hs hE; simp only [Option.map_some, Option.isSome_some]; generalize bs.getD k 0 = b at *
     go_wp2_with fail; refine HM.out.mono ?_; clear HM; rintro e w3 ⟨rfl, hr3, hf3, cs3, hcs3, vs, vm, va, e11, _, _, hs3, _⟩; have HB3 := hide (below_fx HB1.out hf3 HLo.out); have HRow := hide hs3.row; have c11 := (cell_box hcs3 11).trans e11; obtain ⟨sa, sc, rfl, _⟩ := hs3.row.len; clear hr3 hf3 hcs3 e11 hs3 HB1 HLo; rw [<- HSS.out] at c11 HRow; clear HSS; go_wp2_with fail; refine bodyPost_ret (v := .tuple #[.slice sa (Ly.slotsQ cs n).length sc, .int .i64 0]) (by simp [results, Tryz.results12, go_sem]) rfl ?_
     rw [HEE.out]; exact ⟨_, rfl, HRow.out, HB3.out⟩
 · have hE : Ly.slotsE cs n = Ly.layE cs := by unfold Ly.slotsE; rw [if_neg h0]
   have hS : Ly.slotsQ cs n = [] := by unfold Ly.slotsQ; rw [if_neg h0]
   have hv := hno h0; subst hv; have h0' : (Ly.layE cs != 0) = true := by simpa using h0
   have HSS := hide hS; have HEE := hide hE; clear hok hno hE hS HS0; go_wp2_with fail; refine bodyPost_ret (v := .tuple #[.slice none 0 0, .int .i64 (Ly.layE cs)]) (by simp [results, Tryz.results12, go_sem]) rfl ?_
   rw [HSS.out, HEE.out]; exact ⟨_, rfl, ⟨none, 0, rfl, Nat.le_refl _, .inl rfl⟩, HB1.out⟩
def zeroM : List Value := [.string ⟨#[]⟩, .bool false, .bool false, .slice none 0 0, .int .i64 0, .string ⟨#[]⟩, .int .i64 0, .slice none 0 0, .slice none 0 0]
theorem chain9_below {B b : Nat} {w0 w : World} (hB : B <= b) (h : Below B w0 w) (u0 u1 u2 u3 u4 u5 u6 u7 u8 : Value) : Below B w0 (((((((((w.setCell ⟨b, 0, none⟩ u0).setCell ⟨b, 1, none⟩ u1).setCell ⟨b, 2, none⟩ u2).setCell ⟨b, 3, none⟩ u3).setCell ⟨b, 4, none⟩ u4).setCell ⟨b, 5, none⟩ u5).setCell ⟨b, 6, none⟩ u6).setCell ⟨b, 7, none⟩ u7).setCell ⟨b, 8, none⟩ u8) :=
 (((((((((h.setCell hB u0).setCell hB u1).setCell hB u2).setCell hB u3).setCell hB u4).setCell hB u5).setCell hB u6).setCell hB u7).setCell hB u8)
theorem set9_blk {B b : Nat} {w0 w : World} {t : TypeId} {c0 c1 c2 c3 c4 c5 c6 c7 c8 : Value} (hk : w.heap[b]? = some (.cells #[c0, c1, c2, c3, c4, c5, c6, c7, c8] t (0, 0))) (hB : B <= b) (h : Below B w0 w) (u0 u1 u2 u3 u4 u5 u6 u7 u8 : Value) : ∃ W, W = (((((((((w.setCell ⟨b, 0, none⟩ u0).setCell ⟨b, 1, none⟩ u1).setCell ⟨b, 2, none⟩ u2).setCell ⟨b, 3, none⟩ u3).setCell ⟨b, 4, none⟩ u4).setCell ⟨b, 5, none⟩ u5).setCell ⟨b, 6, none⟩ u6).setCell ⟨b, 7, none⟩ u7).setCell ⟨b, 8, none⟩ u8) /\ W.heap[b]? = some (.cells #[u0, u1, u2, u3, u4, u5, u6, u7, u8] t (0, 0)) /\ Below B w0 W := by
 refine ⟨_, rfl, ?_, chain9_below hB h u0 u1 u2 u3 u4 u5 u6 u7 u8⟩; have h0 := put_blk (k := 0) hk u0; rw [show (#[c0, c1, c2, c3, c4, c5, c6, c7, c8] : Array Value).setIfInBounds 0 u0 = #[u0, c1, c2, c3, c4, c5, c6, c7, c8] from rfl] at h0
 have h1 := put_blk (k := 1) h0 u1; rw [show (#[u0, c1, c2, c3, c4, c5, c6, c7, c8] : Array Value).setIfInBounds 1 u1 = #[u0, u1, c2, c3, c4, c5, c6, c7, c8] from rfl] at h1
 have h2 := put_blk (k := 2) h1 u2; rw [show (#[u0, u1, c2, c3, c4, c5, c6, c7, c8] : Array Value).setIfInBounds 2 u2 = #[u0, u1, u2, c3, c4, c5, c6, c7, c8] from rfl] at h2
 have h3 := put_blk (k := 3) h2 u3; rw [show (#[u0, u1, u2, c3, c4, c5, c6, c7, c8] : Array Value).setIfInBounds 3 u3 = #[u0, u1, u2, u3, c4, c5, c6, c7, c8] from rfl] at h3
 have h4 := put_blk (k := 4) h3 u4; rw [show (#[u0, u1, u2, u3, c4, c5, c6, c7, c8] : Array Value).setIfInBounds 4 u4 = #[u0, u1, u2, u3, u4, c5, c6, c7, c8] from rfl] at h4
 have h5 := put_blk (k := 5) h4 u5; rw [show (#[u0, u1, u2, u3, u4, c5, c6, c7, c8] : Array Value).setIfInBounds 5 u5 = #[u0, u1, u2, u3, u4, u5, c6, c7, c8] from rfl] at h5
 have h6 := put_blk (k := 6) h5 u6; rw [show (#[u0, u1, u2, u3, u4, u5, c6, c7, c8] : Array Value).setIfInBounds 6 u6 = #[u0, u1, u2, u3, u4, u5, u6, c7, c8] from rfl] at h6
 have h7 := put_blk (k := 7) h6 u7; rw [show (#[u0, u1, u2, u3, u4, u5, u6, c7, c8] : Array Value).setIfInBounds 7 u7 = #[u0, u1, u2, u3, u4, u5, u6, u7, c8] from rfl] at h7
 have h8 := put_blk (k := 8) h7 u8; rw [show (#[u0, u1, u2, u3, u4, u5, u6, u7, c8] : Array Value).setIfInBounds 8 u8 = #[u0, u1, u2, u3, u4, u5, u6, u7, u8] from rfl] at h8
 exact h8
theorem row_off {α : Type} {w w' : World} {b0 sz : Nat} {P : α -> List Value -> Prop} {v : Value} {l : List α} (h : RowX w sz P v l) (hf : Fx (fun k => k = b0) w w') (hn : ∀ x ∈ l, ∀ ys o, P x ys -> (∀ (j : Nat) (u : Value), ys[j]? = some u -> w.cell? ⟨b0, o + j, none⟩ = some u) -> False) : RowX w' sz P v l := by
 obtain ⟨a, c, rfl, hc, h⟩ := h; refine ⟨a, c, rfl, hc, ?_⟩
 rcases h with h | ⟨b, o, rfl, hlt, hx⟩
 · exact .inl h
 · by_cases hb : b = b0
   · subst hb
     cases l with
     | nil => exact .inl rfl
     | cons x l =>
       obtain ⟨ys, h1, h2⟩ := hx 0 x rfl; exact (hn x (by simp) ys (o + 0 * sz) h1 h2).elim
   · refine .inr ⟨b, o, rfl, Nat.lt_of_lt_of_le hlt hf.size, fun k x hk => ?_⟩
     obtain ⟨ys, h1, h2⟩ := hx k x hk; exact ⟨ys, h1, fun j u hj => (cell_of_blk (hf.blk b hlt hb)).trans (h2 j u hj)⟩
theorem zero_at {o : Nat} {u : Value} (h : zeroM[o]? = some u) : o = 0 /\ u = .string ⟨#[]⟩ \/ o = 1 /\ u = .bool false \/ o = 2 /\ u = .bool false \/ o = 3 /\ u = .slice none 0 0 \/ o = 4 /\ u = .int .i64 0 \/ o = 5 /\ u = .string ⟨#[]⟩ \/ o = 6 /\ u = .int .i64 0 \/ o = 7 /\ u = .slice none 0 0 \/ o = 8 /\ u = .slice none 0 0 := by
 have hl : o < 9 := (List.getElem?_eq_some_iff.1 h).1; have : o = 0 \/ o = 1 \/ o = 2 \/ o = 3 \/ o = 4 \/ o = 5 \/ o = 6 \/ o = 7 \/ o = 8 := by omega
 rcases this with rfl | rfl | rfl | rfl | rfl | rfl | rfl | rfl | rfl <;> cases h <;> simp
theorem mth_off {w w' : World} {b0 : Nat} {t : TypeId} {m : Pp.XMth} {zs : List Value} (hX : w.heap[b0]? = some (.cells zeroM.toArray t (0, 0))) (hf : Fx (fun k => k = b0) w w') (h : MthX w m zs) (hk : ∀ q ∈ m.params, q.kind ≠ 0) : MthX w' m zs := by
 have hz : ∀ (o : Nat) (u : Value), w.cell? ⟨b0, o, none⟩ = some u -> zeroM[o]? = some u := fun o u hu => by
  rw [cell_box hX] at hu
  simpa using hu
 obtain ⟨vp, vc, vk, rfl, x1, x2, x3, x4⟩ := h; refine ⟨vp, vc, vk, rfl, row_off x1 hf ?_, row_off x2 hf ?_, row_off x3 hf ?_, x4⟩
 · rintro x hx ys o ⟨rfl, _⟩ hc
   have h0 := zero_at (hz _ _ (hc 0 _ rfl)); have h1 := zero_at (hz _ _ (hc 1 _ rfl)); simp at h0 h1
   rcases h0 with ⟨e0, h⟩ | ⟨e0, h⟩
   · exact hk x hx h
   · omega
 · rintro x hx ys o ⟨rfl, _⟩ hc
   have h0 := zero_at (hz _ _ (hc 0 _ rfl)); have h1 := zero_at (hz _ _ (hc 1 _ rfl)); simp at h0 h1; omega
 · rintro x hx ys o ⟨rfl, _⟩ hc
   have h1 := zero_at (hz _ _ (hc 1 _ rfl)); have h2 := zero_at (hz _ _ (hc 2 _ rfl)); simp at h1 h2; omega
namespace Ly
open Pp Hr
theorem type_kind {t : Ty} (h : typeB t = true) : t.kind ≠ 0 := by
 intro e; unfold typeB at h; rw [e] at h; simp at h
theorem meth_kinds {cs : List XCls} {up : List (List Nat)} {bs : List Nat} (he : errL cs = 0) (hg : growL (allL cs) (allL cs) = some up) (hn : bs.Nodup) (hl : bs.length = (allL cs).length) {b : Nat} (hb : b ∈ bs) {nm : Bs} {o : Bs × XMth} (ho : methP (bnet (allL cs) up bs) b nm = some o) : ∀ q ∈ o.2.params, q.kind ≠ 0 := by
 have hG := (bnet_img (l := allL cs) up hn hl).good (pnet_good he hg); have hm : o ∈ (bnet (allL cs) up bs).mt b := List.mem_of_find?_eq_some ho; obtain ⟨q, hq, hqm⟩ := mtF_of hG _ b hb o hm; obtain ⟨j, hj, rfl⟩ := ((bnet_img (l := allL cs) up hn hl).T q).1 hq; rw [(bnet_img (l := allL cs) up hn hl).cl j hj] at hqm; have hp := (err_zero he).1
 rcases List.mem_append.1 (List.mem_of_getElem? (at_of hj)) with hc | hc
 · have h0 : ∀ c ∈ base, c.methods = [] := by decide
   have h1 : (clP (allL cs) j).methods = [] := h0 _ hc; have h2 : o.2 ∈ (clP (allL cs) j).methods := hqm; rw [h1] at h2; cases h2
 · have h1 := (cls_parts (prog_all hp hc)).2.2.2.2.2.2 o.2 hqm
   simp only [mthB, Bool.and_eq_true, eachB_iff] at h1; exact fun q hq => type_kind (h1.2.1.2 q hq)
end Ly
def Mv (zs : List Value) : Prop := ∃ (n1 : ByteArray) (b2 b3 : Bool) (a4 : Option Addr) (m4 c4 : Nat) (k5 : Int) (s6 : ByteArray) (l7 : Int) (a8 : Option Addr) (m8 c8 : Nat) (a9 : Option Addr) (m9 c9 : Nat), zs = [.string n1, .bool b2, .bool b3, .slice a4 m4 c4, .int .i64 k5, .string s6, .int .i64 l7, .slice a8 m8 c8, .slice a9 m9 c9]
theorem Mv.of {w : World} {m : Pp.XMth} {zs : List Value} (h : MthX w m zs) : Mv zs := by
 obtain ⟨vp, vc, vk, rfl, x1, x2, x3, _⟩ := h; obtain ⟨ap, cp, rfl, _⟩ := x1.len; obtain ⟨ac, cc, rfl, _⟩ := x2.len; obtain ⟨ak, ck, rfl, _⟩ := x3.len; exact ⟨_, _, _, _, _, _, _, _, _, _, _, _, _, _, _, rfl⟩
theorem Mv.zero : Mv zeroM := ⟨_, _, _, _, _, _, _, _, _, _, _, _, _, _, _, rfl⟩
theorem FoundO.open {w0 : World} {r : Option (Pp.Bs × Pp.XMth)} {e : Ending} (h : FoundO w0 r e) : ∃ ms, Mv ms /\ e = .returned (.tuple #[.agg (.string ⟨((r.map (·.1)).getD []).toArray⟩ :: ms).toArray, .bool r.isSome]) /\ (∀ o, r = some o -> MthX w0 o.2 ms) /\ (r = none -> ms = zeroM) := by
 obtain ⟨zs, rfl, h1, h2⟩ := h; cases r with
 | none =>
   have := h2 rfl; subst this; exact ⟨zeroM, Mv.zero, rfl, (fun o e => by cases e), fun _ => rfl⟩
 | some o =>
   obtain ⟨ms, rfl, hm⟩ := h1 o rfl; exact ⟨ms, Mv.of hm, rfl, fun o' e => by cases e; exact hm, fun e => by cases e⟩
theorem put_up {b c : Nat} {w x : World} (h : Below b w x) (hc : b <= c) (k : Nat) (u : Value) : Below b w (x.setCell ⟨c, k, none⟩ u) := h.setCell (p := ⟨c, k, none⟩) hc u
def FoundL (w' : World) (r : Option (Pp.Bs × Pp.XMth)) (e : Ending) : Prop := ∃ ms, Mv ms /\ e = .returned (.tuple #[.string ⟨((r.map (·.1)).getD []).toArray⟩, .agg ms.toArray, .bool r.isSome]) /\ (∀ o, r = some o -> MthX w' o.2 ms) /\ (r = none -> ms = zeroM)
theorem FoundL.no {w' : World} {r : Option (Pp.Bs × Pp.XMth)} (h : r = none) : FoundL w' r (.returned (.tuple #[.string ⟨#[]⟩, .agg zeroM.toArray, .bool false])) := by
 subst h; exact ⟨zeroM, Mv.zero, rfl, (fun o e => by cases e), fun _ => rfl⟩
namespace Ly
open Pp Hr
def methQ (cs : List XCls) (n nm : Bs) : Option (Bs × XMth) := if layE cs = 0 then (match classQ cs n, growL (allL cs) (allL cs) with
 | some k, some up => methP (pnet (allL cs) up) k nm
 | _, _ => none) else none
end Ly
theorem Method_any (cs : List Pp.XCls) (v : Value) (n nm : Pp.Bs) (w : World) (ht : TabS w) (h : ProgX w v cs) (hl : Pp.Light cs) :
 Calls Tryz.prog 6 #[.agg #[v], .string ⟨n.toArray⟩, .string ⟨nm.toArray⟩] w fun e w' => FoundL w' (Ly.methQ cs n nm) e /\ Below w.heap.size w w' := by
 have HC := hide (fun wx (hb : Below w.heap.size w wx) => tablesOf_any cs v wx (ht.below hb) (h.on hb) hl); obtain ⟨pa, pc, rfl, _⟩ := h.1.len; clear h ht hl; generalize cs.length = m at *
 obtain ⟨wa, hwa⟩ : ∃ wa, wa = (w.alloc (.cells #[.slice pa m pc] 39)).alloc (.cells #[.string ⟨#[]⟩, .bool false, .bool false, .slice none 0 0, .int .i64 0, .string ⟨#[]⟩, .int .i64 0, .slice none 0 0, .slice none 0 0] 29) := ⟨_, rfl⟩; have hx0 := heap_alloc_new w (.cells #[.slice pa m pc] 39); have hb0 := (Below.refl (w.alloc (.cells #[.slice pa m pc] 39)).heap.size (w.alloc (.cells #[.slice pa m pc] 39))).alloc (Nat.le_refl _) (.cells #[.string ⟨#[]⟩, .bool false, .bool false, .slice none 0 0, .int .i64 0, .string ⟨#[]⟩, .int .i64 0, .slice none 0 0, .slice none 0 0] 29); have hx1 := heap_alloc_new (w.alloc (.cells #[.slice pa m pc] 39)) (.cells #[.string ⟨#[]⟩, .bool false, .bool false, .slice none 0 0, .int .i64 0, .string ⟨#[]⟩, .int .i64 0, .slice none 0 0, .slice none 0 0] 29); have HB0 := hide (((Below.refl w.heap.size w).alloc (Nat.le_refl _) (.cells #[.slice pa m pc] 39)).trans (hb0.mono (by simp)))
 have c0 := cell_box ((hb0.block _ (Ow.lt_of_blk hx0)).trans hx0) 0; rw [show (w.alloc (.cells #[.slice pa m pc] 39)).heap.size = w.heap.size + 1 by simp] at hx1
 rw [<- hwa] at hx1 HB0; have HX0 := hide hx1; clear hx0 hb0 hx1; go_enter Tryz.func6, Tryz.ntmps6; go_wp2_with fail; rw [<- hwa] at c0 ⊢; clear hwa; refine (HC.out wa HB0.out).mono ?_; rintro e w1 ⟨vb, rfl, hok, hno, hb1⟩; have HB1 := hide (HB0.out.trans (hb1.mono HB0.out.size)); have HS0 := hide HB0.out.size; have hX1 := (hb1.block _ (Ow.lt_of_blk HX0.out)).trans HX0.out; have HX1 := hide hX1; have HLt := hide (Ow.lt_of_blk HX0.out); clear HC hb1 HB0 c0 HX0 hX1; by_cases h0 : Ly.layE cs = 0
 · obtain ⟨up, bs, w0, he, hg, hnd, hlen, hlow, hr, hst⟩ := hok h0
   have hOk := Ly.netOk he hg hnd hlen; have HCl := hide (tclass_any hnd hlen hOk.len vb n w0 w1 _ hst.row hr)
   have HSl : Hid (∀ k, Ly.classQ cs n = some k -> Ly.methQ cs n nm = Ly.methP (Ly.bnet (Hr.allL cs) up bs) (bs.getD k 0) nm) := hide fun k hk => by
    unfold Ly.methQ Ly.methP; rw [if_pos h0, hk, hg, (Ly.bnet_img up hnd hlen).mt' (Ly.pnet_good he hg) k (Ly.classQ_lt hk).2.1]
   have HSn : Hid (Ly.classQ cs n = none -> Ly.methQ cs n nm = none) := hide fun hk => by unfold Ly.methQ; rw [if_pos h0, hk]
   have HMd : Hid (∀ k, Ly.classQ cs n = some k -> Calls Tryz.prog 10 #[.pointer (some ⟨bs.getD k 0, 0, none⟩), .string ⟨nm.toArray⟩] w1 _) := hide fun k hk => method_any _ hOk.good hOk.small w0 (bs.getD k 0) ((Ly.bnet_img up hnd hlen).mk_T (Ly.classQ_lt hk).2.1) nm w1 _ hr; have HKd : Hid (∀ k, Ly.classQ cs n = some k -> ∀ o, Ly.methP (Ly.bnet (Hr.allL cs) up bs) (bs.getD k 0) nm = some o -> ∀ t ∈ o.2.params, t.kind ≠ 0) := hide fun k hk o ho => Ly.meth_kinds he hg hnd hlen ((Ly.bnet_img up hnd hlen).mk_T (Ly.classQ_lt hk).2.1) ho; have HLo : Hid (∀ k, k ∈ bs -> wa.heap.size <= k) := hide fun k hk => Nat.le_trans hlow (hr.2.2.1 k hk).1; rw [h0]; obtain ⟨ba, bc, rfl, _⟩ := hst.row.len; clear hok hno he hg hnd hlen hlow hr hst hOk h0; generalize bs.length = q at *
   go_wp2_with fail; refine HCl.out.mono ?_; clear HCl; rintro e w2 ⟨rfl, rfl⟩; cases hq : Ly.classQ cs n with
   | none =>
     have HSS := hide (HSn.out hq); clear HSl HSn HMd HLo HKd hq; have f0 := Ow.fzl_blk HX1.out 0; have f1 := Ow.fzl_blk HX1.out 1; have f2 := Ow.fzl_blk HX1.out 2; have f3 := Ow.fzl_blk HX1.out 3; have f4 := Ow.fzl_blk HX1.out 4; have f5 := Ow.fzl_blk HX1.out 5; have f6 := Ow.fzl_blk HX1.out 6; have f7 := Ow.fzl_blk HX1.out 7; have f8 := Ow.fzl_blk HX1.out 8; have q0 := cell_box HX1.out 0; have q1 := cell_box HX1.out 1; have q2 := cell_box HX1.out 2; have q3 := cell_box HX1.out 3; have q4 := cell_box HX1.out 4; have q5 := cell_box HX1.out 5; have q6 := cell_box HX1.out 6; have q7 := cell_box HX1.out 7; have q8 := cell_box HX1.out 8; go_wp2_with fail; refine bodyPost_ret (v := .tuple #[.string ⟨#[]⟩, .agg zeroM.toArray, .bool false]) (by simp [results, Tryz.results6, go_sem, zeroM, *]) rfl ?_
     refine ⟨FoundL.no HSS.out, ?_⟩
     iterate 9 refine put_up ?_ (Nat.le_succ _) _ _
     exact HB1.out
   | some k =>
     have hs := HSl.out k hq; have HSS := hide hs; have HM := hide (HMd.out k hq); have HK := hide (HKd.out k hq); clear HSl HSn HMd HKd hq hs; simp only [Option.map_some, Option.isSome_some]; generalize bs.getD k 0 = b at *
     go_wp2_with fail; refine HM.out.mono ?_; clear HM; rintro e w3 ⟨hf3, hr3, hx3⟩; obtain ⟨ms, ⟨n1, b2, b3, a4, m4, c4, k5, s6, l7, a8, m8, c8, a9, m9, c9, rfl⟩, rfl, h1, h2⟩ := hf3.open; rw [<- HSS.out] at h1 h2 HK ⊢; obtain ⟨OW, hOW⟩ : ∃ q : ByteArray, q = ⟨(((Ly.methQ cs n nm).map (·.1)).getD []).toArray⟩ := ⟨_, rfl⟩; obtain ⟨y, hy⟩ : ∃ q, q = (Ly.methQ cs n nm).isSome := ⟨_, rfl⟩; rw [<- hOW, <- hy]; have hX3 := (hx3.blk _ (Ow.lt_of_blk HX1.out) (fun hk => absurd (HLo.out _ hk) (Nat.not_le.2 HLt.out))).trans HX1.out; have hA : Below w3.heap.size w3 (w3.alloc (.cells #[.string OW, .string n1, .bool b2, .bool b3, .slice a4 m4 c4, .int .i64 k5, .string s6, .int .i64 l7, .slice a8 m8 c8, .slice a9 m9 c9] 55)) := (Below.refl _ _).alloc (Nat.le_refl _) _; have HX4 := hide ((hA.block _ (Ow.lt_of_blk hX3)).trans hX3); have HM4 := hide (fun o ho => (h1 o ho).on (hr3.1.trans (hA.mono hr3.1.size))); have HZ := hide h2; have hB3 := below_fx HB1.out hx3 fun k hk => Nat.le_trans HS0.out (HLo.out k hk); have HB4 := hide (hB3.trans (hA.mono hB3.size)); have HOW := hide hOW; have HY := hide hy; have hnb := heap_alloc_new w3 (.cells #[.string OW, .string n1, .bool b2, .bool b3, .slice a4 m4 c4, .int .i64 k5, .string s6, .int .i64 l7, .slice a8 m8 c8, .slice a9 m9 c9] 55); have HNb := hide hnb; have HNe := hide (Nat.ne_of_gt (Ow.lt_of_blk hX3)); have hnb1 : w3.heap.size < (w3.alloc (.cells #[.string OW, .string n1, .bool b2, .bool b3, .slice a4 m4 c4, .int .i64 k5, .string s6, .int .i64 l7, .slice a8 m8 c8, .slice a9 m9 c9] 55)).heap.size := by simp
     have HNs := hide hnb1; clear hf3 hr3 hx3 h1 h2 hA hX3 hB3 hOW hy hnb1 HB1 HS0 HLo HLt HX1; have g0 := cell_box hnb 0; have g1 := cell_box hnb 1; have g2 := cell_box hnb 2; have g3 := cell_box hnb 3; have g4 := cell_box hnb 4; have g5 := cell_box hnb 5; have g6 := cell_box hnb 6; have g7 := cell_box hnb 7; have g8 := cell_box hnb 8; have g9 := cell_box hnb 9; clear hnb; go_wp2_with fail; clear g0 g1 g2 g3 g4 g5 g6 g7 g8 g9; generalize w3.alloc (.cells #[.string OW, .string n1, .bool b2, .bool b3, .slice a4 m4 c4, .int .i64 k5, .string s6, .int .i64 l7, .slice a8 m8 c8, .slice a9 m9 c9] 55) = w4 at *
     have hx4 : w4.heap[w.heap.size + 1]? = some (.cells #[.string ⟨#[]⟩, .bool false, .bool false, .slice none 0 0, .int .i64 0, .string ⟨#[]⟩, .int .i64 0, .slice none 0 0, .slice none 0 0] 29 (0, 0)) := HX4.out; have HP0 : Hid (∀ wz : World, wz.heap[w3.heap.size]? = some (.cells #[.string OW, .string n1, .bool b2, .bool b3, .slice a4 m4 c4, .int .i64 k5, .string s6, .int .i64 l7, .slice a8 m8 c8, .slice a9 m9 c9] 55 (0, 0)) -> (wz).cell? ⟨w3.heap.size, 0, none⟩ = some (.string OW) /\ (wz).cell? ⟨w3.heap.size, 1, none⟩ = some (.string n1) /\ (wz).cell? ⟨w3.heap.size, 2, none⟩ = some (.bool b2) /\ (wz).cell? ⟨w3.heap.size, 3, none⟩ = some (.bool b3) /\ (wz).cell? ⟨w3.heap.size, 4, none⟩ = some (.slice a4 m4 c4) /\ (wz).cell? ⟨w3.heap.size, 5, none⟩ = some (.int .i64 k5) /\ (wz).cell? ⟨w3.heap.size, 6, none⟩ = some (.string s6) /\ (wz).cell? ⟨w3.heap.size, 7, none⟩ = some (.int .i64 l7) /\ (wz).cell? ⟨w3.heap.size, 8, none⟩ = some (.slice a8 m8 c8) /\ (wz).cell? ⟨w3.heap.size, 9, none⟩ = some (.slice a9 m9 c9)) := hide fun wz h => ⟨cell_box h 0, cell_box h 1, cell_box h 2, cell_box h 3, cell_box h 4, cell_box h 5, cell_box h 6, cell_box h 7, cell_box h 8, cell_box h 9⟩; have HP0d : Hid (∀ wz : World, wz.heap[w3.heap.size]? = some (.cells #[.string OW, .string n1, .bool b2, .bool b3, .slice a4 m4 c4, .int .i64 k5, .string s6, .int .i64 l7, .slice a8 m8 c8, .slice a9 m9 c9] 55 (0, 0)) -> (wz.drew).cell? ⟨w3.heap.size, 0, none⟩ = some (.string OW) /\ (wz.drew).cell? ⟨w3.heap.size, 1, none⟩ = some (.string n1) /\ (wz.drew).cell? ⟨w3.heap.size, 2, none⟩ = some (.bool b2) /\ (wz.drew).cell? ⟨w3.heap.size, 3, none⟩ = some (.bool b3) /\ (wz.drew).cell? ⟨w3.heap.size, 4, none⟩ = some (.slice a4 m4 c4) /\ (wz.drew).cell? ⟨w3.heap.size, 5, none⟩ = some (.int .i64 k5) /\ (wz.drew).cell? ⟨w3.heap.size, 6, none⟩ = some (.string s6) /\ (wz.drew).cell? ⟨w3.heap.size, 7, none⟩ = some (.int .i64 l7) /\ (wz.drew).cell? ⟨w3.heap.size, 8, none⟩ = some (.slice a8 m8 c8) /\ (wz.drew).cell? ⟨w3.heap.size, 9, none⟩ = some (.slice a9 m9 c9)) := hide fun wz h => ⟨cell_box (w := wz.drew) h 0, cell_box (w := wz.drew) h 1, cell_box (w := wz.drew) h 2, cell_box (w := wz.drew) h 3, cell_box (w := wz.drew) h 4, cell_box (w := wz.drew) h 5, cell_box (w := wz.drew) h 6, cell_box (w := wz.drew) h 7, cell_box (w := wz.drew) h 8, cell_box (w := wz.drew) h 9⟩; have HP1 := hide (HP0d.out w4 HNb.out)
     have HFF : Hid (Fx (fun k => k = w.heap.size + 1) w4 (((((((((w4.setCell ⟨w.heap.size + 1, 0, none⟩ (.string n1)).setCell ⟨w.heap.size + 1, 1, none⟩ (.bool b2)).setCell ⟨w.heap.size + 1, 2, none⟩ (.bool b3)).setCell ⟨w.heap.size + 1, 3, none⟩ (.slice a4 m4 c4)).setCell ⟨w.heap.size + 1, 4, none⟩ (.int .i64 k5)).setCell ⟨w.heap.size + 1, 5, none⟩ (.string s6)).setCell ⟨w.heap.size + 1, 6, none⟩ (.int .i64 l7)).setCell ⟨w.heap.size + 1, 7, none⟩ (.slice a8 m8 c8)).setCell ⟨w.heap.size + 1, 8, none⟩ (.slice a9 m9 c9))) := hide (by
      iterate 9 refine fx_put (S := fun k => k = w.heap.size + 1) ?_ rfl _ _
      exact Fx.refl _ _)
     have hh2 := (HFF.out.blk w3.heap.size HNs.out HNe.out).trans HNb.out; have HP2 := hide (HP0.out (((((((((w4.setCell ⟨w.heap.size + 1, 0, none⟩ (.string n1)).setCell ⟨w.heap.size + 1, 1, none⟩ (.bool b2)).setCell ⟨w.heap.size + 1, 2, none⟩ (.bool b3)).setCell ⟨w.heap.size + 1, 3, none⟩ (.slice a4 m4 c4)).setCell ⟨w.heap.size + 1, 4, none⟩ (.int .i64 k5)).setCell ⟨w.heap.size + 1, 5, none⟩ (.string s6)).setCell ⟨w.heap.size + 1, 6, none⟩ (.int .i64 l7)).setCell ⟨w.heap.size + 1, 7, none⟩ (.slice a8 m8 c8)).setCell ⟨w.heap.size + 1, 8, none⟩ (.slice a9 m9 c9)) hh2); have HP3 := hide (HP0d.out (((((((((w4.setCell ⟨w.heap.size + 1, 0, none⟩ (.string n1)).setCell ⟨w.heap.size + 1, 1, none⟩ (.bool b2)).setCell ⟨w.heap.size + 1, 2, none⟩ (.bool b3)).setCell ⟨w.heap.size + 1, 3, none⟩ (.slice a4 m4 c4)).setCell ⟨w.heap.size + 1, 4, none⟩ (.int .i64 k5)).setCell ⟨w.heap.size + 1, 5, none⟩ (.string s6)).setCell ⟨w.heap.size + 1, 6, none⟩ (.int .i64 l7)).setCell ⟨w.heap.size + 1, 7, none⟩ (.slice a8 m8 c8)).setCell ⟨w.heap.size + 1, 8, none⟩ (.slice a9 m9 c9)) hh2); clear hh2; have f0 := Ow.fzl_blk hx4 0; have f1 := Ow.fzl_blk hx4 1; have f2 := Ow.fzl_blk hx4 2; have f3 := Ow.fzl_blk hx4 3; have f4 := Ow.fzl_blk hx4 4; have f5 := Ow.fzl_blk hx4 5; have f6 := Ow.fzl_blk hx4 6; have f7 := Ow.fzl_blk hx4 7; have f8 := Ow.fzl_blk hx4 8; have q0 : w4.cell? ⟨w.heap.size + 1, 0, none⟩ = some (.string ⟨#[]⟩) := cell_box hx4 0; have q1 : w4.cell? ⟨w.heap.size + 1, 1, none⟩ = some (.bool false) := cell_box hx4 1; have q2 : w4.cell? ⟨w.heap.size + 1, 2, none⟩ = some (.bool false) := cell_box hx4 2; have q3 : w4.cell? ⟨w.heap.size + 1, 3, none⟩ = some (.slice none 0 0) := cell_box hx4 3; have q4 : w4.cell? ⟨w.heap.size + 1, 4, none⟩ = some (.int .i64 0) := cell_box hx4 4; have q5 : w4.cell? ⟨w.heap.size + 1, 5, none⟩ = some (.string ⟨#[]⟩) := cell_box hx4 5; have q6 : w4.cell? ⟨w.heap.size + 1, 6, none⟩ = some (.int .i64 0) := cell_box hx4 6; have q7 : w4.cell? ⟨w.heap.size + 1, 7, none⟩ = some (.slice none 0 0) := cell_box hx4 7; have q8 : w4.cell? ⟨w.heap.size + 1, 8, none⟩ = some (.slice none 0 0) := cell_box hx4 8; clear hx4
     go_region_held3 (fun wz => (wz).cell? ⟨w3.heap.size, 0, none⟩ = some (.string OW) /\ (wz).cell? ⟨w3.heap.size, 1, none⟩ = some (.string n1) /\ (wz).cell? ⟨w3.heap.size, 2, none⟩ = some (.bool b2) /\ (wz).cell? ⟨w3.heap.size, 3, none⟩ = some (.bool b3) /\ (wz).cell? ⟨w3.heap.size, 4, none⟩ = some (.slice a4 m4 c4) /\ (wz).cell? ⟨w3.heap.size, 5, none⟩ = some (.int .i64 k5) /\ (wz).cell? ⟨w3.heap.size, 6, none⟩ = some (.string s6) /\ (wz).cell? ⟨w3.heap.size, 7, none⟩ = some (.int .i64 l7) /\ (wz).cell? ⟨w3.heap.size, 8, none⟩ = some (.slice a8 m8 c8) /\ (wz).cell? ⟨w3.heap.size, 9, none⟩ = some (.slice a9 m9 c9)) (first | with_reducible exact HP1.out | with_reducible exact HP2.out | with_reducible exact HP3.out | (trace_state; fail))
      (first | fail)
     all_goals
      go_wp2_with fail; refine bodyPost_ret (v := .tuple #[.string OW, .agg #[.string n1, .bool b2, .bool b3, .slice a4 m4 c4, .int .i64 k5, .string s6, .int .i64 l7, .slice a8 m8 c8, .slice a9 m9 c9], .bool y]) (by simp [results, Tryz.results6, go_sem, *]) rfl ?_
      refine ⟨⟨[.string n1, .bool b2, .bool b3, .slice a4 m4 c4, .int .i64 k5, .string s6, .int .i64 l7, .slice a8 m8 c8, .slice a9 m9 c9], ⟨n1, b2, b3, a4, m4, c4, k5, s6, l7, a8, m8, c8, a9, m9, c9, rfl⟩, by rw [HOW.out, HY.out], fun o ho => mth_off (b0 := w.heap.size + 1) HX4.out (HFF.out.trans (Fx.below (Below.drew (Below.refl _ _)))) (HM4.out o ho) (HK.out o ho), HZ.out⟩, Below.drew ?_⟩
      iterate 9 refine put_up ?_ (Nat.le_succ _) _ _
      exact HB4.out
 · have hS : Ly.methQ cs n nm = none := by unfold Ly.methQ; rw [if_neg h0]
   have hv := hno h0; subst hv; have h0' : (Ly.layE cs != 0) = true := by simpa using h0
   have HSS := hide hS; clear hok hno hS HS0; have f0 := Ow.fzl_blk HX1.out 0; have f1 := Ow.fzl_blk HX1.out 1; have f2 := Ow.fzl_blk HX1.out 2; have f3 := Ow.fzl_blk HX1.out 3; have f4 := Ow.fzl_blk HX1.out 4; have f5 := Ow.fzl_blk HX1.out 5; have f6 := Ow.fzl_blk HX1.out 6; have f7 := Ow.fzl_blk HX1.out 7; have f8 := Ow.fzl_blk HX1.out 8; have q0 := cell_box HX1.out 0; have q1 := cell_box HX1.out 1; have q2 := cell_box HX1.out 2; have q3 := cell_box HX1.out 3; have q4 := cell_box HX1.out 4; have q5 := cell_box HX1.out 5; have q6 := cell_box HX1.out 6; have q7 := cell_box HX1.out 7; have q8 := cell_box HX1.out 8; go_wp2_with fail; refine bodyPost_ret (v := .tuple #[.string ⟨#[]⟩, .agg zeroM.toArray, .bool false]) (by simp [results, Tryz.results6, go_sem, zeroM, *]) rfl ?_
   refine ⟨FoundL.no HSS.out, ?_⟩
   iterate 9 refine put_up ?_ (Nat.le_succ _) _ _
   exact HB1.out
namespace Ly
open Pp Hr
def sigP (N : Net) (b : Nat) (nm : Bs) : Option XMth := match methP N b nm with
 | some o => some o.2
 | none => (N.ab b).findSome? fun i => (methP N i nm).map (·.2)
theorem sig_some {N : Net} {b : Nat} {nm : Bs} {o : Bs × XMth} (h : methP N b nm = some o) : sigP N b nm = some o.2 := by unfold sigP; rw [h]
theorem sig_none {N : Net} {b : Nat} {nm : Bs} (h : methP N b nm = none) : sigP N b nm = (N.ab b).findSome? fun i => (methP N i nm).map (·.2) := by unfold sigP; rw [h]
theorem fs_step {α β : Type} {f : α -> Option β} {l : List α} {k : Nat} {x : α} (h : (l.take k).findSome? f = none) (hx : l[k]? = some x) (hf : f x = none) : (l.take (k + 1)).findSome? f = none := by
 rw [List.take_add_one, hx, List.findSome?_append, h]; simp [hf]
theorem fs_stop {α β : Type} {f : α -> Option β} {l : List α} {k : Nat} {x : α} (h : (l.take k).findSome? f = none) (hx : l[k]? = some x) {y : β} (hf : f x = some y) : l.findSome? f = some y := by
 have hlt := (List.getElem?_eq_some_iff.1 hx).1; have h1 : l[k] = x := by simpa [List.getElem?_eq_getElem hlt] using hx
 rw [<- List.take_append_drop k l, List.findSome?_append, h, List.drop_eq_getElem_cons hlt, h1]; simp [hf]
theorem fs_end {α β : Type} {f : α -> Option β} {l : List α} {k : Nat} (h : (l.take k).findSome? f = none) (hk : l.length <= k) : l.findSome? f = none := by rwa [List.take_of_length_le hk] at h
end Ly
def FoundS (w0 : World) (r : Option Pp.XMth) (e : Ending) : Prop := ∃ ms, Mv ms /\ e = .returned (.tuple #[.agg ms.toArray, .bool r.isSome]) /\ (∀ o, r = some o -> MthX w0 o ms) /\ (r = none -> ms = zeroM)
theorem FoundS.no {w' : World} {r : Option Pp.XMth} (h : r = none) : FoundS w' r (.returned (.tuple #[.agg zeroM.toArray, .bool false])) := by
 subst h; exact ⟨zeroM, Mv.zero, rfl, (fun o e => by cases e), fun _ => rfl⟩
theorem FoundS.yes {w' : World} {r : Option Pp.XMth} {o : Pp.XMth} {ms : List Value} (h : r = some o) (hm : MthX w' o ms) : FoundS w' r (.returned (.tuple #[.agg ms.toArray, .bool true])) := by
 subst h; exact ⟨ms, Mv.of hm, rfl, (fun o' e => by cases e; exact hm), fun e => by cases e⟩
theorem signature_any (N : Net) (hG : N.Good) (hN : N.Small) (w0 : World) (x : Nat) (hT : N.T x) (n : Pp.Bs) (w : World) (A : Nat -> Prop) (h : Rdy N w0 w A) :
 Calls Tryz.prog 23 #[.pointer (some ⟨x, 0, none⟩), .string ⟨n.toArray⟩] w fun e w' => FoundS w0 (Ly.sigP N x n) e /\ Rdy N w0 w' A /\ Fx N.T w w' := by
 have HMd := hide (fun (y : Nat) (hy : N.T y) (wx : World) (hx : Rdy N w0 wx (fun k => A k \/ k = w.heap.size)) => method_any N hG hN w0 y hy n wx _ hx); have HMk := hide (fun (wx : World) (hx : Rdy N w0 wx (fun k => A k \/ k = w.heap.size)) => made_rdy N hG hN w0 x hT wx _ hx); have HAb : Hid (∀ z ∈ N.ab x, N.T z) := hide fun z hz => Ly.abF_T hG _ x hT z hz; have HAl : Hid ((N.ab x).length <= 1000) := hide (Nat.le_trans (hN.ab x hT) (by decide))
 have HTx := hide hT; have HX0 := hide (heap_alloc_new w (.cells #[.string ⟨#[]⟩, .bool false, .bool false, .slice none 0 0, .int .i64 0, .string ⟨#[]⟩, .int .i64 0, .slice none 0 0, .slice none 0 0] 29)); have HR0 := hide (h.alloc (.cells #[.string ⟨#[]⟩, .bool false, .bool false, .slice none 0 0, .int .i64 0, .string ⟨#[]⟩, .int .i64 0, .slice none 0 0, .slice none 0 0] 29)); have HFa := hide (Fx.alloc (fun k => k = w.heap.size) w (.cells #[.string ⟨#[]⟩, .bool false, .bool false, .slice none 0 0, .int .i64 0, .string ⟨#[]⟩, .int .i64 0, .slice none 0 0, .slice none 0 0] 29)); have HnT : Hid (∀ k, N.T k -> k ≠ w.heap.size) := hide fun k hk e => by have := (h.2.2.1 k hk).2; omega
 have HLs : Hid (∀ k, k < w.heap.size -> k ≠ w.heap.size) := hide fun k hk e => by omega
 clear h hT hG hN; go_enter Tryz.func23, Tryz.ntmps23; go_wp2_with fail; generalize w.alloc (.cells #[.string ⟨#[]⟩, .bool false, .bool false, .slice none 0 0, .int .i64 0, .string ⟨#[]⟩, .int .i64 0, .slice none 0 0, .slice none 0 0] 29) = wa at *
 have HEnd : Hid (∀ w2 w3, Rdy N w0 w2 (fun k => A k \/ k = w.heap.size) -> Fx N.T wa w2 -> Fx (fun k => k = w.heap.size) w2 w3 -> Rdy N w0 w3 A /\ Fx N.T w w3) := hide fun w2 w3 hr2 hf2 hf => by
  refine ⟨(hr2.put hf fun k hk => .inr hk).less fun k hk => .inl hk, HFa.out.bel.trans (hf2.bel.trans hf.bel), fun k hk hn => ?_⟩; have h1 := HFa.out.blk k hk (HLs.out k hk); have h2 := hf2.blk k (Nat.lt_of_lt_of_le hk HFa.out.size) hn; have h3 := hf.blk k (Nat.lt_of_lt_of_le (Nat.lt_of_lt_of_le hk HFa.out.size) hf2.size) (HLs.out k hk); exact h3.trans (h2.trans h1)
 have HM0 := hide (HMd.out x HTx.out wa HR0.out); refine HM0.out.mono ?_; rintro e w1 ⟨hf1, hr1, hx1⟩; clear HM0; obtain ⟨ms, ⟨n1, b2, b3, a4, m4, c4, k5, s6, l7, a8, m8, c8, a9, m9, c9, rfl⟩, rfl, h1, h2⟩ := hf1.open; cases hm : Ly.methP N x n with
 | some o =>
   rw [hm] at h1; have HMx := hide (h1 o rfl); obtain ⟨OW, hOW⟩ : ∃ q : ByteArray, q = ⟨((((some o : Option (Pp.Bs × Pp.XMth))).map (·.1)).getD []).toArray⟩ := ⟨_, rfl⟩; rw [<- hOW]; simp only [Option.isSome_some]; have hX1 := (hx1.blk _ (Ow.lt_of_blk HX0.out) (fun hk => HnT.out _ hk rfl)).trans HX0.out; have hA : Below w1.heap.size w1 (w1.alloc (.cells #[.string OW, .string n1, .bool b2, .bool b3, .slice a4 m4 c4, .int .i64 k5, .string s6, .int .i64 l7, .slice a8 m8 c8, .slice a9 m9 c9] 55)) := (Below.refl _ _).alloc (Nat.le_refl _) _; have HX2 := hide ((hA.block _ (Ow.lt_of_blk hX1)).trans hX1); have hnb := heap_alloc_new w1 (.cells #[.string OW, .string n1, .bool b2, .bool b3, .slice a4 m4 c4, .int .i64 k5, .string s6, .int .i64 l7, .slice a8 m8 c8, .slice a9 m9 c9] 55); have HE2 := hide (fun w3 hf => HEnd.out (w1.alloc (.cells #[.string OW, .string n1, .bool b2, .bool b3, .slice a4 m4 c4, .int .i64 k5, .string s6, .int .i64 l7, .slice a8 m8 c8, .slice a9 m9 c9] 55)) w3 (hr1.on hA) ((Fx.refl N.T wa).trans (hx1.trans (Fx.below hA))) hf); have HQ := hide (Ly.sig_some hm); clear hf1 hr1 hx1 h1 h2 hX1 hA HMd HMk HAb HAl HTx HX0 HR0 HFa HnT HLs HEnd hm hOW; have g0 := cell_box hnb 0; have g1 := cell_box hnb 1; have g2 := cell_box hnb 2; have g3 := cell_box hnb 3; have g4 := cell_box hnb 4; have g5 := cell_box hnb 5; have g6 := cell_box hnb 6; have g7 := cell_box hnb 7; have g8 := cell_box hnb 8; have g9 := cell_box hnb 9; clear hnb; have f0 := Ow.fzl_blk HX2.out 0; have f1 := Ow.fzl_blk HX2.out 1; have f2 := Ow.fzl_blk HX2.out 2; have f3 := Ow.fzl_blk HX2.out 3; have f4 := Ow.fzl_blk HX2.out 4; have f5 := Ow.fzl_blk HX2.out 5; have f6 := Ow.fzl_blk HX2.out 6; have f7 := Ow.fzl_blk HX2.out 7; have f8 := Ow.fzl_blk HX2.out 8; have q0 := cell_box HX2.out 0; have q1 := cell_box HX2.out 1; have q2 := cell_box HX2.out 2; have q3 := cell_box HX2.out 3; have q4 := cell_box HX2.out 4; have q5 := cell_box HX2.out 5; have q6 := cell_box HX2.out 6; have q7 := cell_box HX2.out 7; have q8 := cell_box HX2.out 8; go_wp2_with fail; refine bodyPost_ret (v := .tuple #[.agg #[.string n1, .bool b2, .bool b3, .slice a4 m4 c4, .int .i64 k5, .string s6, .int .i64 l7, .slice a8 m8 c8, .slice a9 m9 c9], .bool true]) (by simp [results, Tryz.results23, go_sem, zeroM, *]) rfl ?_
   refine ⟨FoundS.yes HQ.out HMx.out, HE2.out _ ?_⟩
   iterate 9 refine fx_put (S := fun k => k = w.heap.size) ?_ rfl _ _
   exact Fx.refl _ _
 | none =>
   rw [hm] at h2; have h3 := h2 rfl; simp only [zeroM, List.cons.injEq, Value.string.injEq, Value.bool.injEq, Value.slice.injEq, Value.int.injEq] at h3; obtain ⟨rfl, rfl, rfl, ⟨rfl, rfl, rfl⟩, ⟨_, rfl⟩, rfl, ⟨_, rfl⟩, ⟨rfl, rfl, rfl⟩, ⟨rfl, rfl, rfl⟩, _⟩ := h3; have HQ := hide (Ly.sig_none hm); simp only [Option.isSome_none, Option.map_none, Option.getD_none, List.toArray]; have hX1 := (hx1.blk _ (Ow.lt_of_blk HX0.out) (fun hk => HnT.out _ hk rfl)).trans HX0.out; have hA : Below w1.heap.size w1 (w1.alloc (.cells #[.string ⟨#[]⟩, .string ⟨#[]⟩, .bool false, .bool false, .slice none 0 0, .int .i64 0, .string ⟨#[]⟩, .int .i64 0, .slice none 0 0, .slice none 0 0] 55)) := (Below.refl _ _).alloc (Nat.le_refl _) _; have HX2 := hide ((hA.block _ (Ow.lt_of_blk hX1)).trans hX1); have HR2 := hide (hr1.on hA); have HF2 := hide (hx1.trans (Fx.below hA)); have HM2 := hide (HMk.out _ HR2.out); clear hf1 hr1 hx1 h1 h2 hX1 hA HMk HX0 HR0 HFa HLs hm; go_wp2_with fail; generalize w1.alloc (.cells #[.string ⟨#[]⟩, .string ⟨#[]⟩, .bool false, .bool false, .slice none 0 0, .int .i64 0, .string ⟨#[]⟩, .int .i64 0, .slice none 0 0, .slice none 0 0] 55) = w2 at *
   refine HM2.out.mono ?_; rintro e w3 ⟨rfl, hr3, hx3, cs3, hcs3, vs, vm, va, _, _, e13, _, _, hs13⟩; have HR3 := hide hr3; have HF3 := hide (HF2.out.trans hx3); have HX3 := hide ((hx3.blk _ (Ow.lt_of_blk HX2.out) (fun hk => HnT.out _ hk rfl)).trans HX2.out); have c13 := (cell_box hcs3 13).trans e13; have HSt := hide hs13; obtain ⟨aa, ac, rfl, _⟩ := hs13.row.len; obtain ⟨q, hq⟩ : ∃ q, q = (N.ab x).length := ⟨_, rfl⟩; have HN := hide hq; have hq1 : q <= 1000 := by rw [hq]; exact HAl.out
   rw [<- hq] at HSt c13; clear HM2 hr3 hx3 hcs3 e13 hs13 HX2 HR2 HF2 hq; go_wp2_with fail
   go_loopw [27] (fun i wr => ∃ k : Nat, k <= q /\ i = .int .i64 k /\ Hid (Rdy N w0 wr (fun k => A k \/ k = w.heap.size)) /\ Hid (Fx N.T w3 wr) /\ Hid (((N.ab x).take k).findSome? (fun i => (Ly.methP N i n).map (·.2)) = none)) (fun i _ => q - (intOf i).toNat)
   case atStart => exact ⟨0, Nat.zero_le _, rfl, HR3, hide (Fx.refl _ _), hide rfl⟩
   case round =>
    obtain ⟨k, hk, rfl, HRr, HFr, HNo⟩ := hrel; have HX4 := hide ((HFr.out.blk _ (Ow.lt_of_blk HX3.out) (fun hk => HnT.out _ hk rfl)).trans HX3.out); by_cases hlt : k < q
    · obtain ⟨z, hz⟩ : ∃ z, (N.ab x)[k]? = some z := ⟨(N.ab x)[k]'(by rw [<- HN.out]; exact hlt), List.getElem?_eq_getElem _⟩
      have HRw := (HSt.out.on (HFr.out.mono fun k _ hk => Or.inl hk) fun _ _ h => h).row; rw [HN.out] at HRw; obtain ⟨g, o, rfl, ys, wf, hc⟩ := Ow.row_at' HRw hz; have hwf : ys = [.pointer (some ⟨z, 0, none⟩)] := wf; subst hwf; have r0 := hc wr (Below.refl _ _) 0 _ rfl; rw [Nat.add_zero, Nat.mul_one] at r0; have hTz : N.T z := HAb.out z (List.mem_of_getElem? hz); have HM4 := hide (HMd.out z hTz wr HRr.out); have HSp := hide (fun y hf => HQ.out.trans (Ly.fs_stop (y := y) HNo.out hz hf)); have HTk := hide (fun hf => Ly.fs_step HNo.out hz hf); clear hc wf hz HRw HNo hTz; have hlt' : (k : Int) < (q : Int) := by omega
      go_wp2_with fail; refine HM4.out.mono ?_; rintro e w5 ⟨hf5, hr5, hx5⟩; clear HM4 r0; obtain ⟨ms, ⟨n1, b2, b3, a4, m4, c4, k5, s6, l7, a8, m8, c8, a9, m9, c9, rfl⟩, rfl, h1, h2⟩ := hf5.open; cases hm : Ly.methP N z n with
      | some o =>
        rw [hm] at h1; have HMx := hide (h1 o rfl); obtain ⟨OW, hOW⟩ : ∃ q : ByteArray, q = ⟨((((some o : Option (Pp.Bs × Pp.XMth))).map (·.1)).getD []).toArray⟩ := ⟨_, rfl⟩; rw [<- hOW]; simp only [Option.isSome_some]; have hX1 := (hx5.blk _ (Ow.lt_of_blk HX4.out) (fun hk => HnT.out _ hk rfl)).trans HX4.out; have hA : Below w5.heap.size w5 (w5.alloc (.cells #[.string OW, .string n1, .bool b2, .bool b3, .slice a4 m4 c4, .int .i64 k5, .string s6, .int .i64 l7, .slice a8 m8 c8, .slice a9 m9 c9] 55)) := (Below.refl _ _).alloc (Nat.le_refl _) _; have HX2 := hide ((hA.block _ (Ow.lt_of_blk hX1)).trans hX1); have hnb := heap_alloc_new w5 (.cells #[.string OW, .string n1, .bool b2, .bool b3, .slice a4 m4 c4, .int .i64 k5, .string s6, .int .i64 l7, .slice a8 m8 c8, .slice a9 m9 c9] 55); have HE2 := hide (fun w3 hf => HEnd.out (w5.alloc (.cells #[.string OW, .string n1, .bool b2, .bool b3, .slice a4 m4 c4, .int .i64 k5, .string s6, .int .i64 l7, .slice a8 m8 c8, .slice a9 m9 c9] 55)) w3 (hr5.on hA) ((HF3.out.trans HFr.out).trans (hx5.trans (Fx.below hA))) hf); have HQ5 := hide (HSp.out o.2 (by rw [hm]; rfl))
        clear hf5 hr5 hx5 h1 h2 hX1 hA HMd HAb HAl HTx HX3 HX4 HnT HEnd hm HSp HTk HRr HFr HSt HQ HR3 HF3 c13 hOW; have g0 := cell_box hnb 0; have g1 := cell_box hnb 1; have g2 := cell_box hnb 2; have g3 := cell_box hnb 3; have g4 := cell_box hnb 4; have g5 := cell_box hnb 5; have g6 := cell_box hnb 6; have g7 := cell_box hnb 7; have g8 := cell_box hnb 8; have g9 := cell_box hnb 9; clear hnb; have f0 := Ow.fzl_blk HX2.out 0; have f1 := Ow.fzl_blk HX2.out 1; have f2 := Ow.fzl_blk HX2.out 2; have f3 := Ow.fzl_blk HX2.out 3; have f4 := Ow.fzl_blk HX2.out 4; have f5 := Ow.fzl_blk HX2.out 5; have f6 := Ow.fzl_blk HX2.out 6; have f7 := Ow.fzl_blk HX2.out 7; have f8 := Ow.fzl_blk HX2.out 8; have q0 := cell_box HX2.out 0; have q1 := cell_box HX2.out 1; have q2 := cell_box HX2.out 2; have q3 := cell_box HX2.out 3; have q4 := cell_box HX2.out 4; have q5 := cell_box HX2.out 5; have q6 := cell_box HX2.out 6; have q7 := cell_box HX2.out 7; have q8 := cell_box HX2.out 8; go_wp2_with fail; refine bodyPost_ret (v := .tuple #[.agg #[.string n1, .bool b2, .bool b3, .slice a4 m4 c4, .int .i64 k5, .string s6, .int .i64 l7, .slice a8 m8 c8, .slice a9 m9 c9], .bool true]) (by simp [results, Tryz.results23, go_sem, zeroM, *]) rfl ?_
        refine ⟨FoundS.yes HQ5.out HMx.out, HE2.out _ ?_⟩
        iterate 9 refine fx_put (S := fun k => k = w.heap.size) ?_ rfl _ _
        exact Fx.refl _ _
      | none =>
        have HNo2 := hide (HTk.out (by rw [hm]; rfl))
        rw [hm] at h2; have h3 := h2 rfl; simp only [zeroM, List.cons.injEq, Value.string.injEq, Value.bool.injEq, Value.slice.injEq, Value.int.injEq] at h3; obtain ⟨rfl, rfl, rfl, ⟨rfl, rfl, rfl⟩, ⟨_, rfl⟩, rfl, ⟨_, rfl⟩, ⟨rfl, rfl, rfl⟩, ⟨rfl, rfl, rfl⟩, _⟩ := h3; simp only [Option.isSome_none, Option.map_none, Option.getD_none, List.toArray]; have hA : Below w5.heap.size w5 (w5.alloc (.cells #[.string ⟨#[]⟩, .string ⟨#[]⟩, .bool false, .bool false, .slice none 0 0, .int .i64 0, .string ⟨#[]⟩, .int .i64 0, .slice none 0 0, .slice none 0 0] 55)) := (Below.refl _ _).alloc (Nat.le_refl _) _; have HR5 := hide (hr5.on hA); have HF5 := hide (HFr.out.trans (hx5.trans (Fx.below hA))); clear hf5 hr5 hx5 h1 h2 hA hm HSp HTk HRr HFr HX4; go_wp2_with fail
        go_roundw
        case rel => exact ⟨k + 1, by omega, by go_num, HR5, HF5, HNo2⟩
        case measure => simp [intOf]; omega
    · have HE := hide (HQ.out.trans (Ly.fs_end HNo.out (by rw [<- HN.out]; omega)))
      have hnl : ¬ ((k : Int) < (q : Int)) := by omega
      have HE2 := hide (fun w3 hf => HEnd.out wr w3 HRr.out (HF3.out.trans HFr.out) hf); clear HNo HQ HEnd HRr HFr HMd HSt; have f0 := Ow.fzl_blk HX4.out 0; have f1 := Ow.fzl_blk HX4.out 1; have f2 := Ow.fzl_blk HX4.out 2; have f3 := Ow.fzl_blk HX4.out 3; have f4 := Ow.fzl_blk HX4.out 4; have f5 := Ow.fzl_blk HX4.out 5; have f6 := Ow.fzl_blk HX4.out 6; have f7 := Ow.fzl_blk HX4.out 7; have f8 := Ow.fzl_blk HX4.out 8; have q0 := cell_box HX4.out 0; have q1 := cell_box HX4.out 1; have q2 := cell_box HX4.out 2; have q3 := cell_box HX4.out 3; have q4 := cell_box HX4.out 4; have q5 := cell_box HX4.out 5; have q6 := cell_box HX4.out 6; have q7 := cell_box HX4.out 7; have q8 := cell_box HX4.out 8; go_wp2_with fail; refine bodyPost_ret (v := .tuple #[.agg zeroM.toArray, .bool false]) (by simp [results, Tryz.results23, go_sem, zeroM, *]) rfl ?_
      refine ⟨FoundS.no HE.out, HE2.out _ ?_⟩
      iterate 9 refine fx_put (S := fun k => k = w.heap.size) ?_ rfl _ _
      exact Fx.refl _ _
end Go.Proofs.YtjlappamkfjlkabGreatDoor

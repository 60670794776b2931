/- What the laws of this seat lean on: 7 texts. -/
import Derived.Test.YtjlappamkfjlkaaGreatDoorPkAi
import Derived.Test.YtjlappamkfjlkaaGreatDoorPkAm
import Derived.Test.YtjlappamkfjlkaaGreatDoorPkAj
import Derived.Test.YtjlappamkfjlkaaGreatDoorPkAn
import Derived.Test.YtjlappamkfjlkaaGreatDoorPkAe
import Derived.Test.YtjlappamkfjlkaaGreatDoorPkAg
set_option maxRecDepth 100000
set_option maxHeartbeats 64000000
set_option linter.unusedVariables false
set_option linter.unusedSimpArgs false
namespace Go.Proofs.YtjlappamkfjlkaaGreatDoor
open Go.RowKit
namespace Ly
open Pp
def sT : Ty := ⟨2, []⟩
def sM : XMth := ⟨[102], false, false, [], sT, 1, [⟨1, 1, [], []⟩, ⟨41, 0, [], []⟩], []⟩
def sI : XMth := ⟨[102], false, true, [], sT, 0, [], []⟩
def sCI : XCls := ⟨[73], true, [], [], [], [sI]⟩
def sCA : XCls := ⟨[65], false, [], [[73]], [⟨[120], sT, false⟩, ⟨[115], sT, true⟩], [sM]⟩
def sCB : XCls := ⟨[66], false, [65], [], [⟨[121], sT, false⟩], []⟩
def someP : List XCls := [sCI, sCA, sCB]
end Ly
theorem allocs (os : List Obj) (w : World) (i : Nat) (h : i < os.length) : (os.foldl World.alloc w).heap[w.heap.size + i]? = os[i]? := by
 induction os generalizing w i with
 | nil => cases h
 | cons o os ih =>
   rw [List.foldl_cons]; cases i with
   | zero =>
     have hb : ∀ (os : List Obj) (w : World), Below w.heap.size w (os.foldl World.alloc w) := by
      intro os
      induction os with
      | nil => exact fun w => Below.refl _ _
      | cons o os ih => exact fun w => ((Below.refl _ _).alloc (Nat.le_refl _) o).trans ((ih _).mono (by simp))
     have h1 := heap_alloc_new w o; exact ((hb os _).block _ (by simp)).trans h1
   | succ i =>
     have h1 := ih (w.alloc o) i (by simpa using h)
     rw [show (w.alloc o).heap.size = w.heap.size + 1 by simp] at h1
     rw [show w.heap.size + (i + 1) = w.heap.size + 1 + i by omega]
     exact h1
theorem allocs_below (os : List Obj) (w : World) : Below w.heap.size w (os.foldl World.alloc w) := by
 induction os generalizing w with
 | nil => exact Below.refl _ _
 | cons o os ih => exact ((Below.refl _ _).alloc (Nat.le_refl _) o).trans ((ih _).mono (by simp))
theorem row_blk {α : Type} {w : World} {b sz n : Nat} {t : TypeId} {cs : List Value} {P : α -> List Value -> Prop} {l : List α} (h : w.heap[b]? = some (.cells cs.toArray t (0, 0))) (hs : Ow.Shp P sz) (hf : Ow.Flat P l cs) (hn : l.length = n) : RowX w sz P (.slice (some ⟨b, 0, none⟩) n n) l := by
 subst hn; refine ⟨_, _, rfl, Nat.le_refl _, .inr ⟨b, 0, rfl, Ow.lt_of_blk h, fun k x hk => ?_⟩⟩; obtain ⟨ys, h1, h2⟩ := hf.at hs k x hk; exact ⟨ys, h1, fun j u hj => by rw [Nat.zero_add, cell_box h]; simpa using h2 j u hj⟩
theorem row_no {α : Type} {w : World} {sz : Nat} {P : α -> List Value -> Prop} : RowX w sz P (.slice none 0 0) ([] : List α) := ⟨none, 0, rfl, Nat.le_refl _, .inl rfl⟩
def someO (s : Nat) : List Obj := [
 .cells #[.slice (some ⟨s + 1 + 1 + 1 + 1 + 1 + 1 + 1 + 1 + 1, 0, none⟩) 3 3] 24,
 .cells #[.int .i64 2, .string ⟨#[]⟩] 35,
 .cells #[.int .i64 1, .int .i64 1, .string ⟨#[]⟩, .string ⟨#[]⟩, .int .i64 41, .int .i64 0, .string ⟨#[]⟩, .string ⟨#[]⟩] 75,
 .cells #[.string ⟨#[102]⟩, .bool false, .bool false, .slice none 0 0, .int .i64 2, .string ⟨#[]⟩, .int .i64 1, .slice (some ⟨s + 1 + 1, 0, none⟩) 2 2, .slice none 0 0] 39,
 .cells #[.string ⟨#[102]⟩, .bool false, .bool true, .slice none 0 0, .int .i64 2, .string ⟨#[]⟩, .int .i64 0, .slice none 0 0, .slice none 0 0] 39,
 .cells #[.string ⟨#[73]⟩] 9,
 .cells #[.string ⟨#[120]⟩, .int .i64 2, .string ⟨#[]⟩, .bool false, .string ⟨#[115]⟩, .int .i64 2, .string ⟨#[]⟩, .bool true] 72,
 .cells #[.string ⟨#[102]⟩, .bool false, .bool false, .slice none 0 0, .int .i64 2, .string ⟨#[]⟩, .int .i64 1, .slice (some ⟨s + 1 + 1, 0, none⟩) 2 2, .slice none 0 0] 39,
 .cells #[.string ⟨#[121]⟩, .int .i64 2, .string ⟨#[]⟩, .bool false] 72,
 .cells #[.string ⟨#[73]⟩, .bool true, .string ⟨#[]⟩, .slice none 0 0, .slice none 0 0, .slice (some ⟨s + 1 + 1 + 1 + 1, 0, none⟩) 1 1,
  .string ⟨#[65]⟩, .bool false, .string ⟨#[]⟩, .slice (some ⟨s + 1 + 1 + 1 + 1 + 1, 0, none⟩) 1 1, .slice (some ⟨s + 1 + 1 + 1 + 1 + 1 + 1, 0, none⟩) 2 2, .slice (some ⟨s + 1 + 1 + 1 + 1 + 1 + 1 + 1, 0, none⟩) 1 1,
  .string ⟨#[66]⟩, .bool false, .string ⟨#[65]⟩, .slice none 0 0, .slice (some ⟨s + 1 + 1 + 1 + 1 + 1 + 1 + 1 + 1, 0, none⟩) 1 1, .slice none 0 0] 59]
theorem some_prog (w : World) : ProgX ((someO w.heap.size).foldl World.alloc w) (.slice (some ⟨w.heap.size + 1 + 1 + 1 + 1 + 1 + 1 + 1 + 1 + 1, 0, none⟩) 3 3) Ly.someP := by
 have h2 := allocs (someO w.heap.size) w 2 (show 2 < 10 by decide)
 have h4 := allocs (someO w.heap.size) w 4 (show 4 < 10 by decide)
 have h5 := allocs (someO w.heap.size) w 5 (show 5 < 10 by decide)
 have h6 := allocs (someO w.heap.size) w 6 (show 6 < 10 by decide)
 have h7 := allocs (someO w.heap.size) w 7 (show 7 < 10 by decide)
 have h8 := allocs (someO w.heap.size) w 8 (show 8 < 10 by decide)
 have h9 := allocs (someO w.heap.size) w 9 (show 9 < 10 by decide)
 generalize hW : (someO w.heap.size).foldl World.alloc w = W at *
 generalize w.heap.size = s at *
 clear hW; have r2 : RowX W 4 InsX (.slice (some ⟨s + 1 + 1, 0, none⟩) 2 2) Ly.sM.code := row_blk (cs := [.int .i64 1, .int .i64 1, .string ⟨#[]⟩, .string ⟨#[]⟩, .int .i64 41, .int .i64 0, .string ⟨#[]⟩, .string ⟨#[]⟩]) h2 Ow.shp_ins ⟨[_, _, _, _], _, rfl, ⟨rfl, by decide, by decide⟩, [_, _, _, _], _, rfl, ⟨rfl, by decide, by decide⟩, rfl⟩ rfl
 have m1 : MthX W Ly.sM [.string ⟨#[102]⟩, .bool false, .bool false, .slice none 0 0, .int .i64 2, .string ⟨#[]⟩, .int .i64 1, .slice (some ⟨s + 1 + 1, 0, none⟩) 2 2, .slice none 0 0] := ⟨_, _, _, rfl, row_no, r2, row_no, by decide, by decide, by decide, by decide, by decide⟩
 have m2 : MthX W Ly.sI [.string ⟨#[102]⟩, .bool false, .bool true, .slice none 0 0, .int .i64 2, .string ⟨#[]⟩, .int .i64 0, .slice none 0 0, .slice none 0 0] := ⟨_, _, _, rfl, row_no, row_no, row_no, by decide, by decide, by decide, by decide, by decide⟩
 have r4 : RowX W 9 (MthX W) (.slice (some ⟨s + 1 + 1 + 1 + 1, 0, none⟩) 1 1) Ly.sCI.methods := row_blk (cs := _) h4 (Ow.shp_mthx W) ⟨_, [], (List.append_nil _).symm, m2, rfl⟩ rfl; have r5 : RowX W 1 StrX (.slice (some ⟨s + 1 + 1 + 1 + 1 + 1, 0, none⟩) 1 1) Ly.sCA.ifaces := row_blk (cs := _) h5 Ow.shp_str ⟨_, [], (List.append_nil _).symm, ⟨rfl, by decide⟩, rfl⟩ rfl
 have r6 : RowX W 4 FldX (.slice (some ⟨s + 1 + 1 + 1 + 1 + 1 + 1, 0, none⟩) 2 2) Ly.sCA.fields := row_blk (cs := [.string ⟨#[120]⟩, .int .i64 2, .string ⟨#[]⟩, .bool false, .string ⟨#[115]⟩, .int .i64 2, .string ⟨#[]⟩, .bool true]) h6 Ow.shp_fld ⟨[_, _, _, _], _, rfl, ⟨rfl, by decide, by decide⟩, [_, _, _, _], _, rfl, ⟨rfl, by decide, by decide⟩, rfl⟩ rfl
 have r7 : RowX W 9 (MthX W) (.slice (some ⟨s + 1 + 1 + 1 + 1 + 1 + 1 + 1, 0, none⟩) 1 1) Ly.sCA.methods := row_blk (cs := _) h7 (Ow.shp_mthx W) ⟨_, [], (List.append_nil _).symm, m1, rfl⟩ rfl; have r8 : RowX W 4 FldX (.slice (some ⟨s + 1 + 1 + 1 + 1 + 1 + 1 + 1 + 1, 0, none⟩) 1 1) Ly.sCB.fields := row_blk (cs := _) h8 Ow.shp_fld ⟨_, [], (List.append_nil _).symm, ⟨rfl, by decide, by decide⟩, rfl⟩ rfl
 exact ⟨row_blk (cs := [.string ⟨#[73]⟩, .bool true, .string ⟨#[]⟩, .slice none 0 0, .slice none 0 0, .slice (some ⟨s + 1 + 1 + 1 + 1, 0, none⟩) 1 1,
  .string ⟨#[65]⟩, .bool false, .string ⟨#[]⟩, .slice (some ⟨s + 1 + 1 + 1 + 1 + 1, 0, none⟩) 1 1, .slice (some ⟨s + 1 + 1 + 1 + 1 + 1 + 1, 0, none⟩) 2 2, .slice (some ⟨s + 1 + 1 + 1 + 1 + 1 + 1 + 1, 0, none⟩) 1 1,
  .string ⟨#[66]⟩, .bool false, .string ⟨#[65]⟩, .slice none 0 0, .slice (some ⟨s + 1 + 1 + 1 + 1 + 1 + 1 + 1 + 1, 0, none⟩) 1 1, .slice none 0 0]) h9 (Hr.shp_clsx W)
  ⟨[_, _, _, _, _, _], _, rfl, ⟨_, _, _, rfl, row_no, row_no, r4, by decide, by decide, by decide, by decide, by decide⟩,
   [_, _, _, _, _, _], _, rfl, ⟨_, _, _, rfl, r5, r6, r7, by decide, by decide, by decide, by decide, by decide⟩,
   [_, _, _, _, _, _], _, rfl, ⟨_, _, _, rfl, row_no, r8, row_no, by decide, by decide, by decide, by decide, by decide⟩, rfl⟩ rfl, by decide⟩
theorem some_any (w : World) :
 Calls Tryz.prog 47 #[] w fun e w' => ∃ v, e = .returned (.agg #[v]) /\ ProgX w' v Ly.someP /\ Below w.heap.size w w' := by
 have HP := hide (some_prog w); have HB := hide (allocs_below (someO w.heap.size) w); have H0 := hide (allocs (someO w.heap.size) w 0 (show 0 < 10 by decide))
 go_enter Tryz.func47, Tryz.ntmps47; go_wp2_with fail; refine bodyPost_ret (v := .agg #[.slice (some ⟨w.heap.size + 1 + 1 + 1 + 1 + 1 + 1 + 1 + 1 + 1, 0, none⟩) 3 3]) ?_ rfl ?_
 · have c0 := cell_box H0.out 0
   simp [results, Tryz.results47, go_sem]
 · exact ⟨_, rfl, HP.out, HB.out⟩
namespace Ly
open Pp Hr
def upS : List (List Nat) := [[], [0], [1], [1], [1], [1], [1], [1], [], [0, 8], [9]]
theorem grow_S : growL (allL someP) (allL someP) = some upS := by decide +kernel
theorem lay_S : layE someP = 0 := by decide +kernel
theorem place_SB : placeL (allL someP) [66] = some 10 := by decide +kernel
theorem place_SI : placeL (allL someP) [73] = some 8 := by decide +kernel
theorem face_SB : (clP (allL someP) 10).iface = false := by decide +kernel
theorem slots_SB : (pnet (allL someP) upS).sl 10 = [⟨[65], [120], sT⟩, ⟨[66], [121], sT⟩] := by kernel_rfl
theorem statics_S : ((allL someP).flatMap fun c => ownL c true c.fields) = [⟨[65], [115], sT⟩] := by kernel_rfl
theorem meth_SB : methP (pnet (allL someP) upS) 10 [102] = some ([65], sM) := by kernel_rfl
theorem meth_SI : methP (pnet (allL someP) upS) 8 [102] = some ([73], sI) := by kernel_rfl
def emptyC : XCls := ⟨[], false, [], [], [], []⟩
theorem lay_E : layE [emptyC] = 4 := by decide +kernel
theorem light_S : Light someP := ⟨by decide, by
 intro c hc; simp only [someP, List.mem_cons, List.not_mem_nil, or_false] at hc
 rcases hc with rfl | rfl | rfl <;> simp [LtC, LtF, LtM, LtS, LtT, LtI, sCI, sCA, sCB, sM, sI, sT]⟩
end Ly
theorem Rdy.face {N : Net} {w0 w : World} {A : Nat -> Prop} (h : Rdy N w0 w A) {b : Nat} (hb : N.T b) : w.cell? ⟨b, 1, none⟩ = some (.bool (N.cl b).iface) := by
 obtain ⟨cs, ys, h1, ⟨vi, vf, vm, rfl, _⟩, h2⟩ := h.cls hb; exact h2.1 1 _ rfl
namespace Ly
open Pp Hr
theorem classQ_lt {cs : List XCls} {n : Bs} {k : Nat} (h : classQ cs n = some k) : placeL (allL cs) n = some k /\ k < (allL cs).length /\ (clP (allL cs) k).iface = false := by
 unfold classQ at h; cases hp : placeL (allL cs) n with
 | none => rw [hp] at h; cases h
 | some j =>
   rw [hp] at h; simp only at h
   split at h
   · cases h
   · rename_i hi
     cases h; obtain ⟨c, hc, _⟩ := placeL_lt hp; exact ⟨rfl, (List.getElem?_eq_some_iff.1 hc).1, by simpa using hi⟩
def slotsE (cs : List XCls) (n : Bs) : Int := if layE cs = 0 then (if (classQ cs n).isSome then 0 else 5) else layE cs
def slotsQ (cs : List XCls) (n : Bs) : List Slt := if layE cs = 0 then (match classQ cs n, growL (allL cs) (allL cs) with
 | some k, some up => (pnet (allL cs) up).sl k
 | _, _ => []) else []
end Ly
theorem tclass_any {cs : List Pp.XCls} {up : List (List Nat)} {bs : List Nat} (hn : bs.Nodup) (hl : bs.length = (Hr.allL cs).length) (hm : bs.length <= 1000) (v : Value) (n : Pp.Bs) (w0 w : World) (A : Nat -> Prop) (h : RowX w 1 PtrX v bs) (hr : Rdy (Ly.bnet (Hr.allL cs) up bs) w0 w A) :
 Calls Tryz.prog 40 #[v, .string ⟨n.toArray⟩] w fun e w' => e = .returned (.tuple #[.pointer ((Ly.classQ cs n).map fun k => ⟨bs.getD k 0, 0, none⟩), .bool (Ly.classQ cs n).isSome]) /\ w' = w := by
 have hf := tfind_any bs (fun b => ((Ly.bnet (Hr.allL cs) up bs).cl b).name) v n w h hm (fun b hb => hr.name hb); obtain ⟨a, c, rfl, _⟩ := h.len; rw [Ly.bfind (up := up) hn hl n] at hf; cases hp : Hr.placeL (Hr.allL cs) n with
 | none =>
   rw [hp] at hf; have h1 := lclass_any none false a bs.length c n w hf (fun b hb => by cases hb)
   have h2 : Ly.classQ cs n = none := by unfold Ly.classQ; rw [hp]
   rw [h2]; exact h1
 | some k =>
   rw [hp] at hf; obtain ⟨x, hx, _⟩ := Hr.placeL_lt hp; have hk : k < bs.length := by rw [hl]; exact (List.getElem?_eq_some_iff.1 hx).1
   have hT : (Ly.bnet (Hr.allL cs) up bs).T (bs.getD k 0) := by
    show bs.getD k 0 ∈ bs; rw [show bs.getD k 0 = bs[k] by simp [List.getD, List.getElem?_eq_getElem hk]]
    exact List.getElem_mem hk
   have h1 := lclass_any (some (bs.getD k 0)) (Ly.clP (Hr.allL cs) k).iface a bs.length c n w hf (fun b hb => by
    cases hb; rw [hr.face hT]; show some (Value.bool (Ly.clP (Hr.allL cs) (bs.idxOf (bs.getD k 0))).iface) = _
    rw [Ly.idx_get hn hk])
   have h2 : Ly.classQ cs n = if (Ly.clP (Hr.allL cs) k).iface = true then none else some k := by unfold Ly.classQ; rw [hp]
   rw [h2]; cases hi : (Ly.clP (Hr.allL cs) k).iface with
   | true => rw [hi] at h1; exact h1
   | false => rw [hi] at h1; exact h1
theorem Slots_any (cs : List Pp.XCls) (v : Value) (n : Pp.Bs) (w : World) (ht : TabS w) (h : ProgX w v cs) (hl : Pp.Light cs) :
 Calls Tryz.prog 12 #[.agg #[v], .string ⟨n.toArray⟩] w fun e w' => ∃ v', e = .returned (.tuple #[v', .int .i64 (Ly.slotsE cs n)]) /\ RowX w' 4 SltX v' (Ly.slotsQ cs n) /\ Below w.heap.size w w' := by
 have HC := hide (fun wx (hb : Below w.heap.size w wx) => tablesOf_any cs v wx (ht.below hb) (h.on hb) hl); obtain ⟨pa, pc, rfl, _⟩ := h.1.len; clear h ht hl; generalize cs.length = m at *
 have hx0 := heap_alloc_new w (.cells #[.slice pa m pc] 24); have HB0 := hide ((Below.refl w.heap.size w).alloc (Nat.le_refl _) (.cells #[.slice pa m pc] 24)); have c0 := cell_box hx0 0; clear hx0; go_enter Tryz.func12, Tryz.ntmps12; go_wp2_with fail; generalize w.alloc (.cells #[.slice pa m pc] 24) = wa at *
 refine (HC.out wa HB0.out).mono ?_; rintro e w1 ⟨vb, rfl, hok, hno, hb1⟩; have HB1 := hide (HB0.out.trans (hb1.mono HB0.out.size)); have HS0 := hide HB0.out.size; clear HC hb1 HB0 c0; by_cases h0 : Ly.layE cs = 0
 · obtain ⟨up, bs, w0, he, hg, hnd, hlen, hlow, hr, hst⟩ := hok h0
   have hOk := Ly.netOk he hg hnd hlen; have HCl := hide (tclass_any hnd hlen hOk.len vb n w0 w1 _ hst.row hr)
   have HSl : Hid (∀ k, Ly.classQ cs n = some k -> Ly.slotsQ cs n = (Ly.bnet (Hr.allL cs) up bs).sl (bs.getD k 0)) := hide fun k hk => by
    unfold Ly.slotsQ; rw [if_pos h0, hk, hg]; exact ((Ly.bnet_img up hnd hlen).sl' (Ly.pnet_good he hg) k (Ly.classQ_lt hk).2.1).symm
   have HSn : Hid (Ly.classQ cs n = none -> Ly.slotsQ cs n = []) := hide fun hk => by unfold Ly.slotsQ; rw [if_pos h0, hk]
   have HMd : Hid (∀ k, Ly.classQ cs n = some k -> Calls Tryz.prog 41 #[.pointer (some ⟨bs.getD k 0, 0, none⟩)] w1 _) := hide fun k hk => made_rdy _ hOk.good hOk.small w0 (bs.getD k 0) ((Ly.bnet_img up hnd hlen).mk_T (Ly.classQ_lt hk).2.1) w1 _ hr; have HLo : Hid (∀ k, k ∈ bs -> w.heap.size <= k) := hide fun k hk => Nat.le_trans (Nat.le_trans HS0.out hlow) (hr.2.2.1 k hk).1; have HE : Hid (Ly.slotsE cs n = if (Ly.classQ cs n).isSome then 0 else 5) := hide (by unfold Ly.slotsE; rw [if_pos h0])
   rw [h0]; obtain ⟨ba, bc, rfl, _⟩ := hst.row.len; clear hok hno he hg hnd hlen hlow hr hst hOk h0 HS0; generalize bs.length = q at *
   go_wp2_with fail; refine HCl.out.mono ?_; clear HCl; rintro e w2 ⟨rfl, rfl⟩; cases hq : Ly.classQ cs n with
   | none =>
     have hs := HSn.out hq; have hE := HE.out; rw [hq] at hE; have HSS := hide hs; have HEE := hide hE; clear HSl HSn HMd HLo HE hq hs hE; go_wp2_with fail; refine bodyPost_ret (v := .tuple #[.slice none 0 0, .int .i64 5]) (by simp [results, Tryz.results12, go_sem]) rfl ?_
     rw [HSS.out, HEE.out]; exact ⟨_, rfl, ⟨none, 0, rfl, Nat.le_refl _, .inl rfl⟩, HB1.out⟩
   | some k =>
     have hs := HSl.out k hq; have hE := HE.out; rw [hq] at hE; have HSS := hide hs; have HEE := hide hE; have HM := hide (HMd.out k hq); clear HSl HSn HMd HE hq hs hE; simp only [Option.map_some, Option.isSome_some]; generalize bs.getD k 0 = b at *
     go_wp2_with fail; refine HM.out.mono ?_; clear HM; rintro e w3 ⟨rfl, hr3, hf3, cs3, hcs3, vs, vm, va, e11, _, _, hs3, _⟩; have HB3 := hide (below_fx HB1.out hf3 HLo.out); have HRow := hide hs3.row; have c11 := (cell_box hcs3 11).trans e11; obtain ⟨sa, sc, rfl, _⟩ := hs3.row.len; clear hr3 hf3 hcs3 e11 hs3 HB1 HLo; rw [<- HSS.out] at c11 HRow; clear HSS; go_wp2_with fail; refine bodyPost_ret (v := .tuple #[.slice sa (Ly.slotsQ cs n).length sc, .int .i64 0]) (by simp [results, Tryz.results12, go_sem]) rfl ?_
     rw [HEE.out]; exact ⟨_, rfl, HRow.out, HB3.out⟩
 · have hE : Ly.slotsE cs n = Ly.layE cs := by unfold Ly.slotsE; rw [if_neg h0]
   have hS : Ly.slotsQ cs n = [] := by unfold Ly.slotsQ; rw [if_neg h0]
   have hv := hno h0; subst hv; have h0' : (Ly.layE cs != 0) = true := by simpa using h0
   have HSS := hide hS; have HEE := hide hE; clear hok hno hE hS HS0; go_wp2_with fail; refine bodyPost_ret (v := .tuple #[.slice none 0 0, .int .i64 (Ly.layE cs)]) (by simp [results, Tryz.results12, go_sem]) rfl ?_
   rw [HSS.out, HEE.out]; exact ⟨_, rfl, ⟨none, 0, rfl, Nat.le_refl _, .inl rfl⟩, HB1.out⟩
namespace Hr
def placeI : Option Nat -> Int
 | none => -1
 | some k => k
def superS (c : Pp.XCls) : Pp.Bs := (superL c).getD []
theorem superL_ne {c : Pp.XCls} {s : Pp.Bs} (h : superL c = some s) : s ≠ [] := by
 unfold superL at h
 split at h
 · cases h
 · split at h
   · cases h; decide
   · cases h; assumption
theorem superS_nil {c : Pp.XCls} (h : superS c = []) : superL c = none := by
 cases hs : superL c with
 | none => rfl
 | some s => unfold superS at h; rw [hs] at h; exact absurd h (superL_ne hs)
theorem superS_ne {c : Pp.XCls} (h : superS c ≠ []) : superL c = some (superS c) := by
 cases hs : superL c with
 | none => unfold superS at h; rw [hs] at h; exact absurd rfl h
 | some s => unfold superS; rw [hs]; rfl
end Hr
theorem RAt_any (l : List Pp.XCls) (v : Value) (n : Pp.Bs) (w : World) (h : RowX w 6 (ClsX w) v l) (hlen : l.length <= maxLen) :
 Calls Tryz.prog 31 #[v, .string ⟨n.toArray⟩] w fun e w' => e = .returned (.int .i64 (Hr.placeI (Hr.placeL l n))) /\ Below w.heap.size w w' := by
 obtain ⟨pa, pc, rfl, _⟩ := h.len; have H := hide h; obtain ⟨m, hm⟩ : ∃ m, m = l.length := ⟨_, rfl⟩; have HM := hide hm; rw [<- hm] at H hlen ⊢; clear h hm; have hmx : (m : Int) <= 9223372036854775807 := by unfold maxLen at hlen; omega
 go_enter Tryz.func31, Tryz.ntmps31; go_wp2_with fail
 go_loopw [5] (fun i wr => ∃ k : Nat, k <= m /\ i = .int .i64 k /\ Below w.heap.size w wr /\ Hid (∀ (j : Nat) (d : Pp.XCls), j < k -> l[j]? = some d -> d.name ≠ n)) (fun i _ => m - (intOf i).toNat)
 case atStart => exact ⟨0, by omega, rfl, Below.refl _ _, hide fun j d hj => absurd hj (Nat.not_lt_zero _)⟩
 case round =>
  obtain ⟨k, hk, rfl, hbw, hp⟩ := hrel; by_cases hlt : k < m
  · obtain ⟨x, hx⟩ : ∃ x, l[k]? = some x := ⟨l[k]'(by rw [<- HM.out]; exact hlt), List.getElem?_eq_getElem _⟩
    obtain ⟨g1, o1, rfl, ys1, w1', hc1⟩ := Hr.row_at H.out hx; have hG := hide (hc1 wr hbw); clear hc1; obtain ⟨vp, vc, vk, rfl, -⟩ := w1'; have r0 := hG.out 0 _ rfl; rw [Nat.add_zero] at r0; clear hG; have hlt' : (k : Int) < (m : Int) := by omega
    by_cases hn : x.name = n
    · have hr := hide (Hr.placeL_at hx hn hp.out)
      rw [hn] at r0; clear hx hn; generalize (⟨n.toArray⟩ : ByteArray) = y0 at *
      go_wp2_with fail; go_ret; rw [hr.out]; exact ⟨rfl, hbw⟩
    · have hne : (x.name == n) = false := by simp [hn]
      have hr : Hid (∀ (j : Nat) (d : Pp.XCls), j < k + 1 -> l[j]? = some d -> d.name ≠ n) := hide fun j d hj hd => by
       rcases Nat.lt_or_eq_of_le (Nat.le_of_lt_succ hj) with h | rfl
       · exact hp.out j d h hd
       · rw [hx] at hd; cases hd; exact hn
      clear hx hn hp; generalize x.name = y0 at *
      go_wp2_with fail
      go_roundw
      case rel => exact ⟨k + 1, by omega, by go_num, hbw, hr⟩
      case measure => simp [intOf]; omega
  · have hr : Hid (Hr.placeL l n = none) := hide (Hr.placeL_none.2 fun j d hd => hp.out j d (by have := (List.getElem?_eq_some_iff.1 hd).1; have := HM.out; omega) hd)
    go_wp2_with fail; go_ret; rw [hr.out]; exact ⟨rfl, hbw⟩
theorem has_any (l : List Pp.Bs) (v : Value) (n : Pp.Bs) (w : World) (h : RowX w 1 StrX v l) (hlen : l.length <= maxLen) :
 Calls Tryz.prog 61 #[v, .string ⟨n.toArray⟩] w fun e w' => e = .returned (.bool (decide (n ∈ l))) /\ Below w.heap.size w w' := by
 obtain ⟨pa, pc, rfl, _⟩ := h.len; have H := hide h; obtain ⟨m, hm⟩ : ∃ m, m = l.length := ⟨_, rfl⟩; have HM := hide hm; rw [<- hm] at H hlen ⊢; clear h hm; have hmx : (m : Int) <= 9223372036854775807 := by unfold maxLen at hlen; omega
 obtain ⟨b, hb⟩ : ∃ b, b = decide (n ∈ l) := ⟨_, rfl⟩; have HB := hide hb; rw [<- hb]; clear hb; go_enter Tryz.func61, Tryz.ntmps61; go_wp2_with fail
 go_loopw [5] (fun i wr => ∃ k : Nat, k <= m /\ i = .int .i64 k /\ Below w.heap.size w wr /\ Hid (n ∉ l.take k)) (fun i _ => m - (intOf i).toNat)
 case atStart => exact ⟨0, by omega, rfl, Below.refl _ _, hide (by simp)⟩
 case round =>
  obtain ⟨k, hk, rfl, hbw, hp⟩ := hrel; by_cases hlt : k < m
  · obtain ⟨x, hx⟩ : ∃ x, l[k]? = some x := ⟨l[k]'(by rw [<- HM.out]; exact hlt), List.getElem?_eq_getElem _⟩
    obtain ⟨g1, o1, rfl, ys1, w1', hc1⟩ := Hr.row_at H.out hx; obtain rfl : ys1 = _ := w1'.1; have r0 := hc1 wr hbw 0 _ rfl; rw [Nat.add_zero, Nat.mul_one] at r0; have hlt' : (k : Int) < (m : Int) := by omega
    clear hc1 w1'; by_cases hn : x = n
    · have hr : Hid (b = true) := hide (by rw [HB.out, decide_eq_true_eq, <- hn]; exact List.mem_of_getElem? hx)
      rw [hn] at r0; clear hx hn; generalize (⟨n.toArray⟩ : ByteArray) = y0 at *
      go_wp2_with fail; go_ret; rw [hr.out]; exact ⟨rfl, hbw⟩
    · have hne : (x == n) = false := by simp [hn]
      have hr : Hid (n ∉ l.take (k + 1)) := hide (by
       rw [List.take_add_one, hx, List.mem_append]; rintro (h | h)
       · exact hp.out h
       · simp at h; exact hn h.symm)
      clear hx hn hp; go_wp2_with fail
      go_roundw
      case rel => exact ⟨k + 1, by omega, by go_num, hbw, hr⟩
      case measure => simp [intOf]; omega
  · have hr : Hid (b = false) := hide (by
     have := hp.out; rw [List.take_of_length_le (by rw [<- HM.out]; omega)] at this
     rw [HB.out]; simpa using this)
    go_wp2_with fail; go_ret; rw [hr.out]; exact ⟨rfl, hbw⟩
theorem RSuper_any (c : Pp.XCls) (ys : List Value) (w : World) (h : ClsX w c ys) :
 Calls Tryz.prog 59 #[.agg ys.toArray] w fun e w' => e = .returned (.string ⟨(Hr.superS c).toArray⟩) /\ Below w.heap.size w w' := by
 obtain ⟨vp, vc, vk, rfl, p1, i1, k1, z1⟩ := h; clear p1 i1 k1; simp only [clsXL, List.toArray]; by_cases hi : c.iface = true
 · have hr : Hid (Hr.superS c = []) := hide (by simp [Hr.superS, Hr.superL, hi])
   rw [hi]; generalize (⟨c.name.toArray⟩ : ByteArray) = y0; generalize (⟨c.super.toArray⟩ : ByteArray) = y2; rw [hr.out]; go_enter Tryz.func59, Tryz.ntmps59; go_wp2; go_ret; exact ⟨rfl, (Below.refl _ _).alloc (Nat.le_refl _) _⟩
 · have hi' : c.iface = false := by simpa using hi
   by_cases hn : c.name = Hr.objN
   · have hr : Hid (Hr.superS c = []) := hide (by simp [Hr.superS, Hr.superL, hn])
     rw [hi', hn, hr.out]; generalize (⟨c.super.toArray⟩ : ByteArray) = y2; go_enter Tryz.func59, Tryz.ntmps59; go_wp2; go_ret; exact ⟨rfl, (Below.refl _ _).alloc (Nat.le_refl _) _⟩
   · have hne : (c.name == Hr.objN) = false := by simp [hn]
     simp only [Hr.objN] at hne; by_cases hs : c.super = []
     · have hr : Hid (Hr.superS c = Hr.objN) := hide (by simp [Hr.superS, Hr.superL, hn, hi', hs])
       rw [hi', hs, hr.out]; generalize c.name = y0 at *
       go_enter Tryz.func59, Tryz.ntmps59; go_wp2; go_ret; exact ⟨rfl, (Below.refl _ _).alloc (Nat.le_refl _) _⟩
     · have hse : (c.super == []) = false := by simp [hs]
       have hr : Hid (Hr.superS c = c.super) := hide (by simp [Hr.superS, Hr.superL, hn, hi', hs])
       rw [hi', hr.out]; clear hr hs hn; generalize c.name = y0 at *
       generalize c.super = y2 at *
       go_enter Tryz.func59, Tryz.ntmps59; go_wp2; go_ret; exact ⟨rfl, (Below.refl _ _).alloc (Nat.le_refl _) _⟩
namespace Ly
open Pp Hr
theorem look_iff {x : Nat} : ∀ (more acc : List Nat), x ∈ lookL acc more ↔ x ∈ acc \/ x ∈ more
 | [], acc => by show x ∈ acc ↔ _; simp
 | b :: r, acc => by
   show x ∈ lookL (if b ∈ acc then acc else acc ++ [b]) r ↔ _
   rw [look_iff r]
   split
   · rename_i h
     simp; constructor
     · rintro (h1 | h1)
       · exact .inl h1
       · exact .inr (.inr h1)
     · rintro (h1 | rfl | h1)
       · exact .inl h1
       · exact .inl h
       · exact .inr h1
   · simp [or_assoc]
def rowF (l : List XCls) : Nat -> Nat -> List Nat
 | 0, _ => []
 | n + 1, k => k :: (match superL (clP l k) with
   | none => []
   | some s => match placeL l s with
     | none => []
     | some q => rowF l n q)
def rowP (l : List XCls) (up : List (List Nat)) (k : Nat) : List Nat := rowF l (rkP up k + 1) k
section
variable {cs : List XCls} {up : List (List Nat)}
theorem not_ring (he : errL cs = 0) (hg : growL (allL cs) (allL cs) = some up) : ¬ Ring up := by
 obtain ⟨_, _, up', h1, h2⟩ := err_zero he; rw [hg] at h1; injection h1 with h1; subst h1; exact h2
theorem super_at (he : errL cs = 0) (hg : growL (allL cs) (allL cs) = some up) {k : Nat} (hk : k < (allL cs).length) {s : Bs} (hs : superL (clP (allL cs) k) = some s) : ∃ q, placeL (allL cs) s = some q /\ q < (allL cs).length /\ (clP (allL cs) q).name = s /\ (clP (allL cs) q).iface = false /\ rkP up q < rkP up k := by
 obtain ⟨q, d, h1, h2, h3, h4, h5, h6⟩ := super_step hg (at_of hk) hs; refine ⟨q, h1, h6, by rw [clP_at h2]; exact h3, by rw [clP_at h2]; exact h4, rk_lt hg (not_ring he hg) h5⟩
theorem rowF_eq (he : errL cs = 0) (hg : growL (allL cs) (allL cs) = some up) : ∀ n m k, k < (allL cs).length -> rkP up k < n -> rkP up k < m -> rowF (allL cs) n k = rowF (allL cs) m k
 | n + 1, m + 1, k, hk, h1, h2 => by
   unfold rowF; cases hs : superL (clP (allL cs) k) with
   | none => rfl
   | some s =>
     obtain ⟨q, e1, e2, _, _, e3⟩ := super_at he hg hk hs; simp only [e1]; rw [rowF_eq he hg n m q e2 (by omega) (by omega)]
theorem row_none (he : errL cs = 0) (hg : growL (allL cs) (allL cs) = some up) {k : Nat} (hs : superL (clP (allL cs) k) = none) : rowP (allL cs) up k = [k] := by
 unfold rowP rowF; rw [hs]
theorem row_some (he : errL cs = 0) (hg : growL (allL cs) (allL cs) = some up) {k q : Nat} (hk : k < (allL cs).length) {s : Bs} (hs : superL (clP (allL cs) k) = some s) (hq : placeL (allL cs) s = some q) : rowP (allL cs) up k = k :: rowP (allL cs) up q := by
 obtain ⟨q', e1, e2, _, _, e3⟩ := super_at he hg hk hs; rw [hq] at e1; injection e1 with e1; subst e1; unfold rowP; rw [rowF]; simp only [hs, hq]; rw [rowF_eq he hg (rkP up k) (rkP up q + 1) q e2 e3 (Nat.lt_succ_self _)]
theorem row_lt (he : errL cs = 0) (hg : growL (allL cs) (allL cs) = some up) : ∀ n k, k < (allL cs).length -> rkP up k < n -> (rowP (allL cs) up k).length <= rkP up k + 1 /\ ∀ z ∈ rowP (allL cs) up k, z < (allL cs).length
 | n + 1, k, hk, hn => by
   cases hs : superL (clP (allL cs) k) with
   | none =>
     rw [row_none he hg hs]; exact ⟨by simp, fun z hz => by simp at hz; omega⟩
   | some s =>
     obtain ⟨q, e1, e2, _, _, e3⟩ := super_at he hg hk hs; rw [row_some he hg hk hs e1]; obtain ⟨h1, h2⟩ := row_lt he hg n q e2 (by omega)
     refine ⟨by simp; omega, fun z hz => ?_⟩
     rcases List.mem_cons.1 hz with rfl | hz
     · exact hk
     · exact h2 z hz
theorem base_bare {k : Nat} (hk : k < 8) : (clP (allL cs) k).fields = [] /\ (clP (allL cs) k).methods = [] /\ (clP (allL cs) k).iface = false := by
 obtain ⟨x, h1, h2, h3, h4, h5⟩ := base_at hk; rw [clP_at (all_base hk |>.trans h1)]
 exact ⟨h4, h5, h2⟩
theorem top_sup (he : errL cs = 0) : supP (allL cs) 0 = none := place_nil (err_zero he).1
theorem sup_top (he : errL cs = 0) (hg : growL (allL cs) (allL cs) = some up) {k : Nat} (hk : k < (allL cs).length) (hs : supP (allL cs) k = none) {s : Bs} (h : superL (clP (allL cs) k) = some s) : placeL (allL cs) s = some 0 := by
 have h1 := sup_none he hg hk hs; unfold superL at h
 split at h
 · cases h
 · first | rw [h1, if_pos rfl] at h | skip
   injection h with h; subst h; exact place_top
theorem sl_top (he : errL cs = 0) (hg : growL (allL cs) (allL cs) = some up) (hk : 0 < (allL cs).length) : (pnet (allL cs) up).sl 0 = [] := by
 rw [(pnet_good he hg).sl 0 hk]; have : (pnet (allL cs) up).sup 0 = none := top_sup he; rw [this]
 rfl
theorem mt_top (he : errL cs = 0) (hg : growL (allL cs) (allL cs) = some up) (hk : 0 < (allL cs).length) : (pnet (allL cs) up).mt 0 = [] := by
 rw [(pnet_good he hg).mt 0 hk]; have : (pnet (allL cs) up).sup 0 = none := top_sup he; rw [this]
 rfl
theorem row_slots (he : errL cs = 0) (hg : growL (allL cs) (allL cs) = some up) : ∀ n k, k < (allL cs).length -> rkP up k < n ->
 (rowP (allL cs) up k).reverse.flatMap (fun q => ownL (clP (allL cs) q) false (clP (allL cs) q).fields) = (pnet (allL cs) up).sl k /\
 (rowP (allL cs) up k).flatMap (fun q => Net.ownM (clP (allL cs) q)) = (pnet (allL cs) up).mt k
 | n + 1, k, hk, hn => by
   have hG := pnet_good he hg; rw [hG.sl k hk, hG.mt k hk]; have hcl : (pnet (allL cs) up).cl k = clP (allL cs) k := rfl; have hsp : (pnet (allL cs) up).sup k = supP (allL cs) k := rfl; rw [hcl, hsp]; cases hs : superL (clP (allL cs) k) with
   | none =>
     rw [row_none he hg hs]
     have h0 : supP (allL cs) k = none := by
      cases h : supP (allL cs) k with
      | none => rfl
      | some q =>
        have := (sup_step he hg hk h).1; rw [hs] at this; cases this
     rw [h0]; simp
   | some s =>
     obtain ⟨q, e1, e2, _, _, e3⟩ := super_at he hg hk hs; rw [row_some he hg hk hs e1, List.reverse_cons, List.flatMap_append]; simp only [List.flatMap_cons, List.flatMap_nil]; obtain ⟨i1, i2⟩ := row_slots he hg n q e2 (by omega)
     rw [i1, i2]; cases hp : supP (allL cs) k with
     | none =>
       have hq := sup_top he hg hk hp hs; rw [e1] at hq; injection hq with hq; subst hq; rw [sl_top he hg e2, mt_top he hg e2]; simp
     | some z =>
       have h1 := (sup_step he hg hk hp).1; rw [hs] at h1; injection h1 with h1; unfold supP at hp; rw [<- h1, e1] at hp; injection hp with hp; subst hp; simp
theorem row_len (he : errL cs = 0) (hg : growL (allL cs) (allL cs) = some up) {k : Nat} (hk : k < (allL cs).length) : (rowP (allL cs) up k).length <= 19 := by
 have h1 := (row_lt he hg _ k hk (Nat.lt_succ_self _)).1; have h2 := rk_le up k; have h3 := growL_len hg; have h4 := ((eachB_iff cs 10 clsB).1 (err_zero he).1).1; have h5 := all_len cs; have h6 : base.length = 8 := rfl; omega
theorem ab_far (he : errL cs = 0) (hg : growL (allL cs) (allL cs) = some up) : ∀ n k, k < (allL cs).length -> rkP up k < n -> ∀ z, z ∈ (pnet (allL cs) up).ab k ↔ (clP (allL cs) z).iface = true /\ (z = k \/ Far up k z)
 | n + 1, k, hk, hn, z => by
   have hG := pnet_good he hg
   have hm : ∀ (l : List Nat) (a : List Nat), z ∈ l.foldl (fun a i => lookL a ((pnet (allL cs) up).ab i)) a ↔ z ∈ a \/ ∃ i ∈ l, z ∈ (pnet (allL cs) up).ab i := fun l => by
    induction l with
    | nil => intro a; simp
    | cons i l ih =>
      intro a; rw [List.foldl_cons, ih, look_iff]; constructor
      · rintro ((h | h) | ⟨j, h1, h2⟩)
        · exact .inl h
        · exact .inr ⟨i, by simp, h⟩
        · exact .inr ⟨j, List.mem_cons_of_mem _ h1, h2⟩
      · rintro (h | ⟨j, h1, h2⟩)
        · exact .inl (.inl h)
        · rcases List.mem_cons.1 h1 with rfl | h1
          · exact .inl (.inr h2)
          · exact .inr ⟨j, h1, h2⟩
   have hsp : (pnet (allL cs) up).sup k = supP (allL cs) k := rfl
   have h0 : z ∈ (pnet (allL cs) up).ab0 k (ifsP (allL cs) k) ↔ (z = k /\ (clP (allL cs) k).iface = true) \/ ∃ i ∈ ifsP (allL cs) k, (clP (allL cs) z).iface = true /\ (z = i \/ Far up i z) := by
    unfold Net.ab0; rw [hm]
    have e1 : z ∈ (if ((pnet (allL cs) up).cl k).iface = true then [k] else []) ↔ z = k /\ (clP (allL cs) k).iface = true := by
     show z ∈ (if (clP (allL cs) k).iface = true then [k] else []) ↔ _
     split
     · rename_i h; simp [h]
     · rename_i h; simp [h]
    rw [e1]; constructor
    · rintro (h | ⟨i, h1, h2⟩)
      · exact .inl h
      · obtain ⟨q1, q2⟩ := hG.ifs k i hk h1
        exact .inr ⟨i, h1, (ab_far he hg n i q1 (by have : rkP up i < rkP up k := q2; omega) z).1 h2⟩
    · rintro (h | ⟨i, h1, h2⟩)
      · exact .inl h
      · obtain ⟨q1, q2⟩ := hG.ifs k i hk h1
        exact .inr ⟨i, h1, (ab_far he hg n i q1 (by have : rkP up i < rkP up k := q2; omega) z).2 h2⟩
   have hstep : ∀ j, Step up k j -> j ∈ ifsP (allL cs) k \/ supP (allL cs) k = some j \/ (supP (allL cs) k = none /\ j = 0) := by
    rintro j ⟨u, hu, hj⟩; obtain ⟨u', hu', huc⟩ := growL_at hg (at_of hk); rw [hu] at hu'; injection hu' with hu'; subst hu'; obtain ⟨y, hy, e⟩ := (ups_names huc).2 j hj; unfold aboveL at hy
    rcases List.mem_append.1 hy with hy | hy
    · cases hsl : superL (clP (allL cs) k) with
      | none => rw [hsl] at hy; cases hy
      | some s =>
        rw [hsl] at hy; simp at hy; subst hy; cases hp : supP (allL cs) k with
        | none =>
          have := sup_top he hg hk hp hsl; rw [e] at this; injection this with this; exact .inr (.inr ⟨rfl, this⟩)
        | some q =>
          have h1 := (sup_step he hg hk hp).1; rw [hsl] at h1; injection h1 with h1; unfold supP at hp; rw [<- h1, e] at hp; exact .inr (.inl hp.symm)
    · exact .inl (List.mem_filterMap.2 ⟨y, hy, e⟩)
   have hfar : ∀ {i j : Nat}, Far up i j -> ∃ m, Step up i m /\ (j = m \/ Far up m j) := by
    intro i j h; refine Far.ind (C := fun i j => ∃ m, Step up i m /\ (j = m \/ Far up m j)) (fun s => ⟨_, s, .inl rfl⟩) (fun _ s ih => ?_) h; obtain ⟨m, h1, h2⟩ := ih; refine ⟨m, h1, .inr ?_⟩
    rcases h2 with rfl | h2
    · exact .one s
    · exact .more h2 s
   have htop : ∀ z, ¬ Far up 0 z := by
    intro z h; obtain ⟨m, ⟨u, hu, hm⟩, _⟩ := hfar h; have := up_top hg; rw [this] at hu; injection hu with hu; subst hu; cases hm
   have hi0 : (clP (allL cs) 0).iface = false := rfl; have hsf : ∀ j, j ∈ ifsP (allL cs) k -> Step up k j := fun j hj => (ifs_step hg hk hj).1; rw [hG.ab k hk, hsp]; cases hp : supP (allL cs) k with
   | none =>
     show z ∈ (pnet (allL cs) up).ab0 k (ifsP (allL cs) k) ↔ _; rw [h0]; constructor
     · rintro (⟨rfl, h⟩ | ⟨i, h1, h2, h3⟩)
       · exact ⟨h, .inl rfl⟩
       · refine ⟨h2, .inr ?_⟩
         rcases h3 with rfl | h3
         · exact .one (hsf _ h1)
         · exact (Far.one (hsf _ h1)).trans h3
     · rintro ⟨h1, rfl | h2⟩
       · exact .inl ⟨rfl, h1⟩
       · obtain ⟨m, e1, e2⟩ := hfar h2
         rcases hstep m e1 with e3 | e3 | ⟨_, rfl⟩
         · exact .inr ⟨m, e3, h1, e2⟩
         · rw [hp] at e3; cases e3
         · rcases e2 with rfl | e2
           · rw [hi0] at h1; cases h1
           · exact absurd e2 (htop z)
   | some s =>
     show z ∈ lookL ((pnet (allL cs) up).ab0 k (ifsP (allL cs) k)) ((pnet (allL cs) up).ab s) ↔ _; obtain ⟨q1, q2⟩ := hG.sup k s hk hp; have hss := (sup_step he hg hk hp).2.1; rw [look_iff, h0, ab_far he hg n s q1 (by have : rkP up s < rkP up k := q2; omega) z]
     constructor
     · rintro ((⟨rfl, h⟩ | ⟨i, h1, h2, h3⟩) | ⟨h2, h3⟩)
       · exact ⟨h, .inl rfl⟩
       · refine ⟨h2, .inr ?_⟩
         rcases h3 with rfl | h3
         · exact .one (hsf _ h1)
         · exact (Far.one (hsf _ h1)).trans h3
       · refine ⟨h2, .inr ?_⟩
         rcases h3 with rfl | h3
         · exact .one hss
         · exact (Far.one hss).trans h3
     · rintro ⟨h1, rfl | h2⟩
       · exact .inl (.inl ⟨rfl, h1⟩)
       · obtain ⟨m, e1, e2⟩ := hfar h2
         rcases hstep m e1 with e3 | e3 | ⟨e3, _⟩
         · exact .inl (.inr ⟨m, e3, h1, e2⟩)
         · rw [hp] at e3
           injection e3 with e3; subst e3; exact .inr ⟨h1, e2⟩
         · rw [hp] at e3; cases e3
end
end Ly
namespace Ly
open Pp Hr
def mOkG (c : XCls) (m : XMth) : Bool := !((c.iface && (!m.abst || m.stat)) || (!c.iface && m.abst)) && m.params.all fun t => t.kind != 1
def fOkG (c : XCls) (f : Fld) : Bool := !(c.iface || f.ty.kind == 1)
def namedG (l : List XCls) (t : Ty) : Bool := (t.kind != 3 && t.kind != 5) || (placeL l t.name).isSome
def mNamG (l : List XCls) (m : XMth) : Bool := namedG l m.ret && m.params.all (namedG l)
def memG (l : List XCls) (c : XCls) : Int :=
 if c.methods.all (mOkG c) = true /\ c.fields.all (fOkG c) = true then (if (c.fields.map (·.name)).Nodup /\ (c.methods.map (·.name)).Nodup then (if c.fields.all (fun f => namedG l f.ty) = true /\ c.methods.all (mNamG l) = true then 0 else 5) else 6) else 4
theorem all_congr {α : Type} {p q : α -> Bool} : ∀ {l : List α}, (∀ x ∈ l, p x = q x) -> l.all p = l.all q
 | [], _ => rfl
 | a :: l, h => by rw [List.all_cons, List.all_cons, h a (by simp), all_congr fun x hx => h x (List.mem_cons_of_mem _ hx)]
theorem formG_eq (c : XCls) : (c.methods.all (mOkG c) = true /\ c.fields.all (fOkG c) = true) ↔ formedB c = true := by
 unfold formedB fldsOk; rw [Bool.and_eq_true, Bool.and_eq_true]
 have h1 : c.methods.all (mOkG c) = c.methods.all (mthOk c) := all_congr fun m _ => by
  unfold mOkG mthOk; cases c.iface <;> cases m.abst <;> cases m.stat <;> simp
 rw [h1]; cases hi : c.iface with
 | true =>
   have h2 : c.fields.all (fOkG c) = decide (c.fields = []) := by
    cases c.fields with
    | nil => rfl
    | cons f fs => rw [List.all_cons]; unfold fOkG; rw [hi]; simp
   rw [h2]; cases c.fields with
   | nil => simp
   | cons f fs => simp
 | false =>
   have h2 : c.fields.all (fOkG c) = c.fields.all (fun f => f.ty.kind != 1) := all_congr fun f _ => by unfold fOkG; rw [hi]; rfl
   rw [h2]; simp [and_comm]
theorem named_ty {t : Ty} (l : List XCls) (h : typeB t = true) : namedG l t = knownT l t := by
 unfold typeB at h; unfold namedG knownT
 split at h
 · rename_i hk
   have hn : t.name = [] := by simpa using h
   rw [hn]
   rcases hk with hk | hk | hk <;> rw [hk] <;> simp
 · split at h
   · rename_i hk
     have hne := fresh_ne h; have hne' : (t.name == []) = false := by simpa using hne
     rw [hne']
     rcases hk with hk | hk <;> rw [hk] <;> simp
   · cases h
def tyd (c : XCls) : Prop := (∀ f ∈ c.fields, typeB f.ty = true) /\ ∀ m ∈ c.methods, typeB m.ret = true /\ ∀ t ∈ m.params, typeB t = true
theorem knownG_eq {c : XCls} (l : List XCls) (h : tyd c) : (c.fields.all (fun f => namedG l f.ty) = true /\ c.methods.all (mNamG l) = true) ↔ knownB l c = true := by
 unfold knownB typesL; rw [List.all_append, Bool.and_eq_true, List.all_map]; have h1 : c.fields.all (fun f => namedG l f.ty) = c.fields.all (knownT l ∘ fun f => f.ty) := all_congr fun f hf => named_ty l (h.1 f hf); rw [h1]
 have h2 : c.methods.all (mNamG l) = (c.methods.flatMap fun m => m.params ++ [m.ret]).all (knownT l) := by
  have h3 : ∀ m ∈ c.methods, mNamG l m = (m.params ++ [m.ret]).all (knownT l) := fun m hm => by
   unfold mNamG; rw [List.all_append, named_ty l (h.2 m hm).1, all_congr fun t ht => named_ty l ((h.2 m hm).2 t ht)]; simp [Bool.and_comm]
  generalize c.methods = ms at h3
  induction ms with
  | nil => rfl
  | cons m ms ih => rw [List.all_cons, List.flatMap_cons, List.all_append, h3 m (by simp), ih fun x hx => h3 x (List.mem_cons_of_mem _ hx)]
 rw [h2]
theorem memG_eq {c : XCls} (l : List XCls) (h : tyd c) : memG l c = memF l c := by
 unfold memG memF; by_cases h1 : formedB c = true
 · rw [if_pos ((formG_eq c).2 h1), if_pos h1]
   by_cases h2 : (c.fields.map (·.name)).Nodup /\ (c.methods.map (·.name)).Nodup
   · rw [if_pos h2, if_neg (fun h => (twiceB_iff c).1 h h2)]
     by_cases h3 : knownB l c = true
     · rw [if_pos ((knownG_eq l h).2 h3), if_pos h3]
     · rw [if_neg (fun h4 => h3 ((knownG_eq l h).1 h4)), if_neg h3]
   · rw [if_neg h2, if_pos ((twiceB_iff c).2 h2)]
 · rw [if_neg (fun h4 => h1 ((formG_eq c).1 h4)), if_neg h1]
theorem all_tyd {cs : List XCls} (h : progB cs = true) {k : Nat} {c : XCls} (hc : (allL cs)[k]? = some c) : tyd c := by
 rcases List.mem_append.1 (List.mem_of_getElem? hc) with hm | hm
 · have : ∀ c ∈ base, c.methods = [] /\ c.fields = [] := by decide
   obtain ⟨h1, h2⟩ := this c hm; exact ⟨by rw [h2]; simp, by rw [h1]; simp⟩
 · obtain ⟨_, _, _, _, _, h6, h7⟩ := cls_parts (prog_all h hm)
   refine ⟨fun f hf => ?_, fun m hm => ?_⟩
   · have := h6 f hf
     simp only [fldB, Bool.and_eq_true] at this; exact this.2
   · have := h7 m hm
     simp only [mthB, Bool.and_eq_true, eachB_iff] at this; exact ⟨this.2.2.1, this.2.1.2⟩
section
variable {cs : List XCls} {up : List (List Nat)}
def inhG (N : Net) (q : Nat) (c : XCls) : Int := if c.fields.any (clashF N q) = true then 6 else if c.methods.any (clashM N q) = true then 8 else 0
theorem inh_sup (he : errL cs = 0) (hg : growL (allL cs) (allL cs) = some up) {k q : Nat} (hk : k < (allL cs).length) {s : Bs} (hs : superL (clP (allL cs) k) = some s) (hq : placeL (allL cs) s = some q) : inhG (pnet (allL cs) up) q (clP (allL cs) k) = supF (pnet (allL cs) up) k := by
 unfold supF; have hsp : (pnet (allL cs) up).sup k = supP (allL cs) k := rfl; have hcl : (pnet (allL cs) up).cl k = clP (allL cs) k := rfl; rw [hsp, hcl]; cases hp : supP (allL cs) k with
 | none =>
   have h0 := sup_top he hg hk hp hs; rw [hq] at h0; injection h0 with h0; subst h0; have h0l : 0 < (allL cs).length := by omega
   have h1 : (clP (allL cs) k).fields.any (clashF (pnet (allL cs) up) 0) = false := by
    rw [List.any_eq_false]; intro f _; unfold clashF slotP; rw [sl_top he hg h0l]; simp
   have h2 : (clP (allL cs) k).methods.any (clashM (pnet (allL cs) up) 0) = false := by
    rw [List.any_eq_false]; intro m _; unfold clashM methP; rw [mt_top he hg h0l]; simp
   show inhG _ 0 _ = 0; unfold inhG; rw [h1, h2]
   rfl
 | some z =>
   have h1 := (sup_step he hg hk hp).1; rw [hs] at h1; injection h1 with h1; unfold supP at hp; rw [<- h1, hq] at hp; injection hp with hp; subst hp
   rfl
theorem sup_iface (he : errL cs = 0) (hg : growL (allL cs) (allL cs) = some up) {k : Nat} (hk : k < (allL cs).length) (hi : (clP (allL cs) k).iface = true) : supF (pnet (allL cs) up) k = 0 := by
 unfold supF; have hsp : (pnet (allL cs) up).sup k = supP (allL cs) k := rfl; rw [hsp]; cases hp : supP (allL cs) k with
 | none => rfl
 | some z =>
   have h1 := (sup_step he hg hk hp).1; unfold superL at h1; rw [if_pos (.inl hi)] at h1; cases h1
theorem base_up (he : errL cs = 0) (hg : growL (allL cs) (allL cs) = some up) {k : Nat} (hk : k < 8) {u : List Nat} (hu : up[k]? = some u) {j : Nat} (hj : j ∈ u) : j < 8 := by
 obtain ⟨_, ho, _⟩ := err_zero he; obtain ⟨x, b1, b2, b3, _⟩ := base_at hk; obtain ⟨u', hu', huc⟩ := growL_at hg ((all_base hk).trans b1); rw [hu] at hu'; injection hu' with hu'; subst hu'; obtain ⟨y, hy, e⟩ := (ups_names huc).2 j hj; unfold aboveL at hy; rw [b3, List.append_nil] at hy; have hb : ∀ x ∈ base, ∀ y ∈ (superL x).toList, y = objN \/ y = errN := by decide
 rcases hb x (List.mem_of_getElem? b1) y hy with rfl | rfl
 · rw [place_top] at e
   injection e with e; omega
 · rw [place_one ho] at e
   injection e with e; omega
theorem base_mem (l : List XCls) {k : Nat} (hk : k < 8) : memF l (clP (allL cs) k) = 0 := by
 obtain ⟨h1, h2, h3⟩ := base_bare (cs := cs) hk
 have e1 : formedB (clP (allL cs) k) = true := by
  unfold formedB fldsOk; rw [h1, h2, h3]
  rfl
 have e2 : ¬ twiceB (clP (allL cs) k) = true := fun h => (twiceB_iff _).1 h (by rw [h1, h2]; exact ⟨List.nodup_nil, List.nodup_nil⟩)
 have e3 : knownB l (clP (allL cs) k) = true := by
  unfold knownB typesL; rw [h1, h2]
  rfl
 unfold memF; rw [if_pos e1, if_neg e2, if_pos e3]
theorem base_sup (hg : growL (allL cs) (allL cs) = some up) {k : Nat} (hk : k < 8) : supF (pnet (allL cs) up) k = 0 := by
 obtain ⟨h1, h2, h3⟩ := base_bare (cs := cs) hk; unfold supF; have hcl : (pnet (allL cs) up).cl k = clP (allL cs) k := rfl; rw [hcl, h1, h2]
 split <;> simp
theorem base_ifc (he : errL cs = 0) (hg : growL (allL cs) (allL cs) = some up) {k : Nat} (hk : k < 8) : ifcF (pnet (allL cs) up) (List.range (allL cs).length) k = 0 := by
 unfold ifcF; have hcl : (pnet (allL cs) up).cl k = clP (allL cs) k := rfl; obtain ⟨_, _, h3⟩ := base_bare (cs := cs) hk; rw [hcl, h3, if_neg (by decide)]
 have hkl : k < (allL cs).length := by
  have h5 := all_len cs; have h6 : base.length = 8 := rfl; omega
 have hz : ∀ i, i ∉ (pnet (allL cs) up).ab k := by
  intro i hi; obtain ⟨h1, h2⟩ := (ab_far he hg _ k hkl (Nat.lt_succ_self _) i).1 hi; obtain ⟨x, b1, b2, b3, _⟩ := base_at hk
  have hlow : ∀ {a b : Nat}, Far up a b -> a < 8 -> b < 8 := by
   intro a b h; refine Far.ind (C := fun a b => a < 8 -> b < 8) (fun {i j} s h => ?_) (fun {i j m} _ s ih h => ?_) h
   · obtain ⟨u, hu, hj⟩ := s
     exact base_up he hg h hu hj
   · obtain ⟨u, hu, hj⟩ := s
     exact base_up he hg (ih h) hu hj
  have h8 : i < 8 := by
   rcases h2 with rfl | h2
   · exact hk
   · exact hlow h2 hk
  rw [(base_bare (cs := cs) h8).2.2] at h1; cases h1
 have : ∀ l : List Nat, firstL (faceF (pnet (allL cs) up) k) l = 0 := by
  intro l
  induction l with
  | nil => rfl
  | cons a l ih =>
    have h0 : faceF (pnet (allL cs) up) k a = 0 := by unfold faceF; rw [if_neg (hz a)]
    simp only [firstL, h0, if_true, ih]
 exact this _
end
end Ly
namespace Hr
theorem above_nil {c : Pp.XCls} (h : superS c = []) : aboveL c = c.ifaces := by
 unfold aboveL; rw [superS_nil h]; rfl
theorem above_ne {c : Pp.XCls} (h : superS c ≠ []) : aboveL c = superS c :: c.ifaces := by
 unfold aboveL; rw [superS_ne h]; rfl
theorem superS_len {c : Pp.XCls} (h : c.super.length <= maxLen) : (superS c).length <= maxLen := by
 unfold superS superL
 split
 · exact Nat.zero_le _
 · split
   · show 6 <= maxLen; unfold maxLen; omega
   · exact h
end Hr
theorem above_any (c : Pp.XCls) (ys : List Value) (w : World) (h : ClsX w c ys) (hl : c.ifaces.length <= 1000) :
 Calls Tryz.prog 60 #[.agg ys.toArray] w fun e w' => ∃ v', e = .returned v' /\ Ow.OwnX w' w.heap.size 9 1 StrX v' (Hr.aboveL c) /\ Below w.heap.size w w' := by
 obtain ⟨j0, hj, hj0, hj1, hj2⟩ := Ow.info_of Ow.i_str; have HS := hide (fun wx (hb : Below w.heap.size w wx) => RSuper_any c ys wx (h.on hb)); obtain ⟨vp, vc, vk, rfl, p1, i1, k1, z1⟩ := h; have HI := hide p1; have HZ := hide z1.2.1; obtain ⟨va1, vd1, rfl, _⟩ := p1.len; obtain ⟨va2, vd2, rfl, _⟩ := i1.len; obtain ⟨va3, vd3, rfl, _⟩ := k1.len; clear p1 i1 k1 z1; simp only [clsXL, List.toArray] at HS ⊢; have HX := hide (heap_alloc_new w (.cells #[.string ⟨c.name.toArray⟩, .bool c.iface, .string ⟨c.super.toArray⟩, .slice va1 c.ifaces.length vd1, .slice va2 c.fields.length vd2, .slice va3 c.methods.length vd3] 59)); have HB0 := hide ((Below.refl w.heap.size w).alloc (Nat.le_refl _) (.cells #[.string ⟨c.name.toArray⟩, .bool c.iface, .string ⟨c.super.toArray⟩, .slice va1 c.ifaces.length vd1, .slice va2 c.fields.length vd2, .slice va3 c.methods.length vd3] 59)); go_enter Tryz.func60, Tryz.ntmps60; go_wp2_with fail; refine (HS.out _ HB0.out).mono ?_; rintro e w1 ⟨rfl, hb1⟩; have HB1 := hide (HB0.out.trans (hb1.mono HB0.out.size)); have c3 := cell_box ((hb1.block _ (Ow.lt_of_blk HX.out)).trans HX.out) 3; have HC3 := hide (fun wx (hb : Below w1.heap.size w1 wx) => cell_box ((hb.block _ (Nat.lt_of_lt_of_le (Ow.lt_of_blk HX.out) hb1.size)).trans ((hb1.block _ (Ow.lt_of_blk HX.out)).trans HX.out)) 3); clear HS hb1 HX HB0; obtain ⟨n, hn⟩ : ∃ n, n = c.ifaces.length := ⟨_, rfl⟩; have HN := hide hn; rw [<- hn] at HI c3 HC3 hl; clear hn; by_cases hs : Hr.superS c = []
 · have HA := hide (Hr.above_nil hs)
   rw [hs]
   go_wp2_with (at_builtin; refine Ow.wpList_app rfl (.tmp 13) (.tmp 15) 55 rfl Tryz.underlying55 hj hj0 hj1 hj2 (by decide) Ow.shp_str rfl (Ow.OwnX.nil w1 w.heap.size 9 1 StrX) rfl (HI.out.on HB1.out fun _ _ h => h) ?c1 (by decide) HB1.out.size ?_)
   case c1 => rw [<- HN.out]; simp; omega
   · intro v' w2 hown hgrow
     have HB2 := hide (HB1.out.trans (Ow.bel_grown (Ow.OwnX.nil w1 w.heap.size 9 1 StrX) HB1.out.size hgrow)); have HO2 : Hid (Ow.OwnX w2 w.heap.size 9 1 StrX v' (Hr.aboveL c)) := hide (by rw [HA.out]; exact hown)
     clear hown hgrow; go_wp2_with fail; go_ret; exact ⟨_, rfl, HO2.out, HB2.out⟩
 · have HA := hide (Hr.above_ne hs)
   have hse : (Hr.superS c == []) = false := by simp [hs]
   have HL := hide (Hr.superS_len HZ.out); clear hs; generalize Hr.superS c = s at *
   have hAl := HB1.out.alloc HB1.out.size (.cells #[.string ⟨s.toArray⟩] 9); have HAl := hide hAl; have HR1 : Hid (RowX (w1.alloc (.cells #[.string ⟨s.toArray⟩] 9)) 1 StrX (.slice (some ⟨w1.heap.size, 0, none⟩) 1 1) [s]) := hide (Hr.row_one (heap_alloc_new w1 _) ⟨rfl, HL.out⟩); clear hAl c3
   go_wp2_with (at_builtin; refine Ow.wpList_app rfl (.tmp 9) (.tmp 11) 55 rfl Tryz.underlying55 hj hj0 hj1 hj2 (by decide) Ow.shp_str rfl (Ow.OwnX.nil _ w.heap.size 9 1 StrX) rfl HR1.out ?c1 (by decide) HAl.out.size ?_)
   case c1 => simp
   · intro v' w2 hown hgrow
     have HG2 := hide (Ow.bel_grown (Ow.OwnX.nil (w1.alloc (.cells #[.string ⟨s.toArray⟩] 9)) (w1.alloc (.cells #[.string ⟨s.toArray⟩] 9)).heap.size 9 1 StrX) (Nat.le_refl _) hgrow); have HW2 : Hid (Below w1.heap.size w1 w2) := hide (((Below.refl _ _).alloc (Nat.le_refl _) _).trans (HG2.out.mono (by simp)))
     have HB2 := hide (HB1.out.trans (HW2.out.mono HB1.out.size)); have HO2 := hide hown; have c3 := HC3.out _ HW2.out; obtain ⟨la, lc, rfl⟩ := hown.shape; clear hown hgrow HR1 HAl HG2
     go_wp2_with (at_builtin; refine Ow.wpList_app rfl (.tmp 13) (.tmp 15) 55 rfl Tryz.underlying55 hj hj0 hj1 hj2 (by decide) Ow.shp_str rfl HO2.out rfl (HI.out.on HB2.out fun _ _ h => h) ?c2 (by decide) HB2.out.size ?_)
     case c2 => rw [<- HN.out]; simp; omega
     · intro v' w3 hown hgrow
       have HB3 := hide (HB2.out.trans (Ow.bel_grown HO2.out HB2.out.size hgrow)); have HO3 : Hid (Ow.OwnX w3 w.heap.size 9 1 StrX v' (Hr.aboveL c)) := hide (by rw [HA.out]; exact hown)
       clear hown hgrow; go_wp2_with fail; go_ret; exact ⟨_, rfl, HO3.out, HB3.out⟩
theorem Base_any (w : World) :
 Calls Tryz.prog 35 #[] w fun e w' => ∃ v, e = .returned v /\ Ow.OwnX w' w.heap.size 59 6 Hr.BasX v Hr.base /\ Below w.heap.size w w' := by
 obtain ⟨j0, hj, hj0, hj1, hj2⟩ := Ow.info_of Ow.i_cls
 have HO0 : Hid (Ow.OwnX (w.alloc (.cells #[.string ⟨#[79, 98, 106, 101, 99, 116]⟩, .bool false, .string ⟨#[]⟩, .slice none 0 0, .slice none 0 0, .slice none 0 0, .string ⟨#[69, 114, 114, 111, 114]⟩, .bool false, .string ⟨#[79, 98, 106, 101, 99, 116]⟩, .slice none 0 0, .slice none 0 0, .slice none 0 0] 59)) w.heap.size 59 6 Hr.BasX (.slice (some ⟨w.heap.size, 0, none⟩) 2 2) (Hr.base.take 2)) := hide
  ⟨_, ⟨[.string ⟨#[79, 98, 106, 101, 99, 116]⟩, .bool false, .string ⟨#[]⟩, .slice none 0 0, .slice none 0 0, .slice none 0 0], _, rfl, Hr.bas_plain (by decide) (by decide), [.string ⟨#[69, 114, 114, 111, 114]⟩, .bool false, .string ⟨#[79, 98, 106, 101, 99, 116]⟩, .slice none 0 0, .slice none 0 0, .slice none 0 0], _, rfl, Hr.bas_plain (by decide) (by decide), rfl⟩, rfl, .inr ⟨w.heap.size, 2, _, rfl, Nat.le_refl _, heap_alloc_new w _, Nat.le_refl _, by decide, rfl, rfl⟩⟩
 have HW0 := hide ((Below.refl w.heap.size w).alloc (Nat.le_refl _) (.cells #[.string ⟨#[79, 98, 106, 101, 99, 116]⟩, .bool false, .string ⟨#[]⟩, .slice none 0 0, .slice none 0 0, .slice none 0 0, .string ⟨#[69, 114, 114, 111, 114]⟩, .bool false, .string ⟨#[79, 98, 106, 101, 99, 116]⟩, .slice none 0 0, .slice none 0 0, .slice none 0 0] 59)); go_enter Tryz.func35, Tryz.ntmps35; go_wp2_with fail; have HS0 : Hid ((w.alloc (.cells #[.string ⟨#[79, 98, 106, 101, 99, 116]⟩, .bool false, .string ⟨#[]⟩, .slice none 0 0, .slice none 0 0, .slice none 0 0, .string ⟨#[69, 114, 114, 111, 114]⟩, .bool false, .string ⟨#[79, 98, 106, 101, 99, 116]⟩, .slice none 0 0, .slice none 0 0, .slice none 0 0] 59)).heap.size = w.heap.size + 1) := hide (by simp)
 generalize w.alloc (.cells #[.string ⟨#[79, 98, 106, 101, 99, 116]⟩, .bool false, .string ⟨#[]⟩, .slice none 0 0, .slice none 0 0, .slice none 0 0, .string ⟨#[69, 114, 114, 111, 114]⟩, .bool false, .string ⟨#[79, 98, 106, 101, 99, 116]⟩, .slice none 0 0, .slice none 0 0, .slice none 0 0] 59) = w0 at *
 go_loopw [1, 3] (fun v i wr => ∃ k : Nat, k <= 6 /\ i = .int .i64 k /\ Hid (Below w.heap.size w wr) /\ Hid (wr.heap[w.heap.size + 1]? = some (.cells ((Hr.subs.map fun s => Value.string ⟨s.toArray⟩).toArray) 9 (0, 0))) /\ Hid (Ow.OwnX wr w.heap.size 59 6 Hr.BasX v (Hr.base.take (2 + k)))) (fun v i _ => 6 - (intOf i).toNat)
 case atStart => exact ⟨0, Nat.zero_le _, rfl, hide (HW0.out.alloc HW0.out.size _), hide (by rw [<- HS0.out]; exact heap_alloc_new w0 _), hide (HO0.out.on ((Below.refl _ _).alloc (Nat.le_refl _) _) fun _ _ h => h)⟩
 case round =>
  obtain ⟨k, hk, rfl, HB, HT, HO⟩ := hrel; clear HO0 HW0; obtain ⟨la, lc, rfl⟩ := HO.out.shape; by_cases hlt : k < 6
  · have hlen : Hid ((Hr.base.take (2 + k)).length = 2 + k) := hide (by rw [List.length_take]; have : Hr.base.length = 8 := rfl; omega)
    obtain ⟨s, hs, hb, hsl⟩ : ∃ s, Hr.subs[k]? = some s /\ Hr.base[2 + k]? = some (Hr.plain s Hr.errN) /\ s.length <= maxLen := by
     have hcs : k = 0 \/ k = 1 \/ k = 2 \/ k = 3 \/ k = 4 \/ k = 5 := by omega
     rcases hcs with rfl | rfl | rfl | rfl | rfl | rfl <;> exact ⟨_, rfl, rfl, by decide⟩
    have HTk : Hid (Hr.base.take (2 + (k + 1)) = Hr.base.take (2 + k) ++ [Hr.plain s Hr.errN]) := hide (by rw [<- Nat.add_assoc, List.take_add_one, hb]; rfl)
    have HSl := hide hsl; have r0 := cell_box HT.out k; rw [List.getElem?_toArray, List.getElem?_map, hs] at r0; simp only [Option.map_some] at r0; have hlt' : (k : Int) < 6 := by omega
    clear hs hb hsl; generalize Hr.base.take (2 + k) = acc at *
    obtain ⟨al, hal⟩ : ∃ a, a = acc.length := ⟨_, rfl⟩; have HAl := hide hal; have HTA := hide (((Below.refl wr.heap.size wr).alloc (Nat.le_refl _) (.cells #[.string ⟨s.toArray⟩, .bool false, .string ⟨#[69, 114, 114, 111, 114]⟩, .slice none 0 0, .slice none 0 0, .slice none 0 0] 59)).block _ (Ow.lt_of_blk HT.out) |>.trans HT.out)
    have HA := hide (HB.out.alloc HB.out.size (.cells #[.string ⟨s.toArray⟩, .bool false, .string ⟨#[69, 114, 114, 111, 114]⟩, .slice none 0 0, .slice none 0 0, .slice none 0 0] 59)); have HO1 := hide (HO.out.on ((Below.refl wr.heap.size wr).alloc (Nat.le_refl _) (.cells #[.string ⟨s.toArray⟩, .bool false, .string ⟨#[69, 114, 114, 111, 114]⟩, .slice none 0 0, .slice none 0 0, .slice none 0 0] 59)) fun _ _ h => h); have HR1 := hide (Hr.row_one (sz := 6) (P := Hr.BasX) (heap_alloc_new wr (.cells #[.string ⟨s.toArray⟩, .bool false, .string ⟨#[69, 114, 114, 111, 114]⟩, .slice none 0 0, .slice none 0 0, .slice none 0 0] 59)) (Hr.bas_plain (n := s) (s := Hr.errN) HSl.out (by decide)))
    clear HO HT HB
    go_wp2_with (at_builtin; refine Ow.wpList_app rfl (.tmp 14) (.tmp 20) 22 rfl Tryz.underlying22 hj hj0 hj1 hj2 (by decide) Hr.shp_bas rfl HO1.out rfl HR1.out ?c1 (by decide) HA.out.size ?_)
    case c1 => have := hlen.out; simp; omega
    · intro v' w10 hown hgrow
      have hkx := Ow.kx_grown HO1.out hgrow; have HB10 := hide (HA.out.trans (Ow.bel_grown HO1.out HA.out.size hgrow)); have HT10 := hide (hkx.blk _ _ _ _ HTA.out (by decide))
      have HO10 : Hid (Ow.OwnX w10 w.heap.size 59 6 Hr.BasX v' (Hr.base.take (2 + (k + 1)))) := hide (by rw [HTk.out]; exact hown)
      clear hown hgrow hkx HO1 HR1 HA HTA; go_wp2_with fail
      go_roundw
      case rel => first | exact ⟨k + 1, by omega, by go_num, HB10, HT10, HO10⟩ | ((repeat apply Exists.intro); exact ⟨⟨k + 1, by omega, by go_num, HB10, HT10, HO10⟩, rfl⟩)
      case measure => simp [intOf]; omega
  · have hk6 : k = 6 := by omega
    subst hk6; have HOe : Hid (Ow.OwnX wr w.heap.size 59 6 Hr.BasX (.slice la (List.take (2 + 6) Hr.base).length lc) Hr.base) := HO; generalize (List.take (2 + 6) Hr.base).length = nl at *
    go_wp2_with fail; go_ret; exact ⟨_, rfl, HOe.out, HB.out⟩
end Go.Proofs.YtjlappamkfjlkaaGreatDoor

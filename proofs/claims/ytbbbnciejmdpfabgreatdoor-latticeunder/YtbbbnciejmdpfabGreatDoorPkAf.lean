/- What the laws of this seat lean on: 3 texts. -/
import Derived.Test.YtbbbnciejmdpfabGreatDoorPkAc
import Derived.LaidEqlPtr
set_option maxRecDepth 100000
set_option maxHeartbeats 64000000
set_option linter.unusedVariables false
set_option linter.unusedSimpArgs false
namespace Go.Proofs.YtbbbnciejmdpfabGreatDoor
open Go.RowKit
namespace Pp
structure Slt where
 owner : Bs
 name : Bs
 ty : Ty
def ownL (c : XCls) (st : Bool) (fs : List Fld) : List Slt := (fs.filter fun f => f.stat == st).map fun f => ⟨c.name, f.name, f.ty⟩
theorem ownL_snoc (c : XCls) (st : Bool) (fs : List Fld) (f : Fld) : ownL c st (fs ++ [f]) = ownL c st fs ++ (if f.stat = st then [⟨c.name, f.name, f.ty⟩] else []) := by
 unfold ownL; rw [List.filter_append, List.map_append]
 congr 1
 by_cases h : f.stat = st
 · simp [h]
 · simp [h]
theorem ownL_len (c : XCls) (st : Bool) (fs : List Fld) : (ownL c st fs).length <= fs.length := by
 unfold ownL; rw [List.length_map]; exact List.length_filter_le _ _
end Pp
def SltX (s : Pp.Slt) (ys : List Value) : Prop := ys = [.string ⟨s.owner.toArray⟩, .string ⟨s.name.toArray⟩, .int .i64 s.ty.kind, .string ⟨s.ty.name.toArray⟩]
theorem shp_slt : Ow.Shp SltX 4 := by rintro x ys rfl; exact ⟨rfl, by intro u hu; simp at hu; rcases hu with rfl | rfl | rfl | rfl <;> rfl⟩
def PtrX (b : Nat) (ys : List Value) : Prop := ys = [.pointer (some ⟨b, 0, none⟩)]
theorem shp_ptr : Ow.Shp PtrX 1 := by rintro x ys rfl; exact ⟨rfl, by intro u hu; simp at hu; subst hu; rfl⟩
namespace Ow
theorem info_of' {P : Program} {t : TypeId} {s z b : Nat} (h : (P.info? t).map (fun i => (i.zero.map (fun z => z.cells.size), i.size, i.bytes)) = some (some z, s, b)) : ∃ i, P.info? t = some i /\ i.zero.map (fun z => z.cells.size) = some z /\ i.size = s /\ i.bytes = b := by
 cases hi : P.info? t with
 | none => rw [hi] at h; cases h
 | some i => rw [hi] at h; simp only [Option.map_some, Option.some.injEq, Prod.mk.injEq] at h; exact ⟨i, rfl, h.1, h.2.1, h.2.2⟩
theorem row_at' {α : Type} {W : World} {sz : Nat} {P : α -> List Value -> Prop} {a : Option Addr} {n c : Nat} {l : List α} (h : RowX W sz P (.slice a n c) l) {k : Nat} {x : α} (hx : l[k]? = some x) : ∃ b o, a = some ⟨b, o, none⟩ /\ ∃ ys, P x ys /\ ∀ wx, Below W.heap.size W wx -> ∀ (j : Nat) (u : Value), ys[j]? = some u -> wx.cell? ⟨b, o + k * sz + j, none⟩ = some u := by
 obtain ⟨a', c', e, hc, h⟩ := h; injection e with e1 e2 e3; subst e1
 rcases h with rfl | ⟨b, o, rfl, hlt, hr⟩
 · simp at hx
 · obtain ⟨ys, h1, h2⟩ := hr k x hx
   exact ⟨b, o, rfl, ys, h1, fun wx hb j u hj => (hb.cell (by exact hlt)).trans (h2 j u hj)⟩
theorem row_one' {α : Type} {P : α -> List Value -> Prop} {w : World} {ys : List Value} {x : α} {t : TypeId} {sz : Nat} (h : P x ys) : RowX (w.alloc (.cells ys.toArray t)) sz P (.slice (some ⟨w.heap.size, 0, none⟩) 1 1) [x] := by
 refine ⟨_, 1, rfl, Nat.le_refl _, .inr ⟨_, _, rfl, by simp, fun k y hk => ?_⟩⟩
 have hb : (w.alloc (.cells ys.toArray t)).heap[w.heap.size]? = some (.cells ys.toArray t (0, 0)) := heap_alloc_new w _; cases k with
 | zero =>
   simp at hk; subst hk; refine ⟨ys, h, fun j u hj => ?_⟩; rw [cell_box hb]
   simpa using hj
 | succ k => simp at hk
theorem i_slot : (Tryz.prog.info? 80).map (fun i => (i.zero.map (fun z => z.cells.size), i.size, i.bytes)) = some (some 4, 4, 56) := by kernel_rfl
theorem i_tabp : (Tryz.prog.info? 125).map (fun i => (i.zero.map (fun z => z.cells.size), i.size, i.bytes)) = some (some 1, 1, 8) := by kernel_rfl
end Ow
theorem ownSlots_any (c : Pp.XCls) (ys : List Value) (st : Bool) (w : World) (h : ClsX w c ys) (hn : c.fields.length <= 100) :
 Calls Tryz.prog 135 #[.agg ys.toArray, .bool st] w fun e w' => ∃ v, e = .returned v /\ Ow.OwnX w' w.heap.size 80 4 SltX v (Pp.ownL c st c.fields) /\ Below w.heap.size w w' := by
 obtain ⟨vi, vf, vm, rfl, x1, x2, x3, _⟩ := h; have HRf := hide x2; obtain ⟨ia, ic, rfl, _⟩ := x1.len; obtain ⟨fa, fc, rfl, _⟩ := x2.len; obtain ⟨ma, mc, rfl, _⟩ := x3.len; clear x1 x2 x3; obtain ⟨n, hn'⟩ : ∃ q, q = c.fields.length := ⟨_, rfl⟩; have HN := hide hn'; rw [<- hn'] at HRf hn; simp only [clsXL]; rw [<- hn']; clear hn'; obtain ⟨NB, hNB⟩ : ∃ q : ByteArray, q = ⟨c.name.toArray⟩ := ⟨_, rfl⟩; have HNB := hide hNB; rw [<- hNB]; clear hNB; obtain ⟨j0, hj, hj0, hj1, hj2⟩ := Ow.info_of' Ow.i_slot; have HB0 := hide ((Below.refl w.heap.size w).alloc (Nat.le_refl _) (.cells #[.string NB, .bool c.iface, .string ⟨c.super.toArray⟩, .slice ia c.ifaces.length ic, .slice fa n fc, .slice ma c.methods.length mc] 33)); have hx0 := heap_alloc_new w (.cells #[.string NB, .bool c.iface, .string ⟨c.super.toArray⟩, .slice ia c.ifaces.length ic, .slice fa n fc, .slice ma c.methods.length mc] 33); go_enter Tryz.func135, Tryz.ntmps135; go_wp2_with fail; generalize w.alloc (.cells #[.string NB, .bool c.iface, .string ⟨c.super.toArray⟩, .slice ia c.ifaces.length ic, .slice fa n fc, .slice ma c.methods.length mc] 33) = w0 at *
 have HC : Hid (∀ wx, Below w0.heap.size w0 wx -> wx.cell? ⟨w.heap.size, 0, none⟩ = some (.string NB)) := hide fun wx hb => cell_box ((hb.block _ (Ow.lt_of_blk hx0)).trans hx0) 0; clear hx0
 go_loopw [5, 11] (fun l i wr => ∃ (k : Nat) (la : Option Addr) (lc : Nat) (ln : Nat), k <= n /\ i = .int .i64 k /\ l = .slice la ln lc /\ ln = (Pp.ownL c st (c.fields.take k)).length /\ Hid (Below w0.heap.size w0 wr) /\ Hid (Ow.OwnX wr w0.heap.size 80 4 SltX (.slice la ln lc) (Pp.ownL c st (c.fields.take k)))) (fun _ i _ => n - (intOf i).toNat)
 case atStart => exact ⟨0, none, 0, 0, Nat.zero_le _, rfl, rfl, rfl, hide (Below.refl _ _), hide (Ow.OwnX.nil _ _ _ _ _)⟩
 case round =>
  obtain ⟨k, la, lc, ln, hk, rfl, rfl, hln, HBr, HO⟩ := hrel; have HLn := hide hln; have hlk : ln <= 100 := by rw [hln]; have := Pp.ownL_len c st (c.fields.take k); rw [List.length_take] at this; omega
  clear hln; by_cases hlt : k < n
  · obtain ⟨f, hx⟩ : ∃ f, c.fields[k]? = some f := ⟨c.fields[k]'(by rw [<- HN.out]; exact hlt), List.getElem?_eq_getElem _⟩
    obtain ⟨g, o, eg, fs, wf, hc⟩ := Ow.row_at' HRf.out hx; subst eg
    have HTk : Hid (Pp.ownL c st (c.fields.take (k + 1)) = Pp.ownL c st (c.fields.take k) ++ (if f.stat = st then [⟨c.name, f.name, f.ty⟩] else [])) := hide (by
     rw [List.take_add_one, hx]
     exact Pp.ownL_snoc c st _ f)
    obtain ⟨fnm, ⟨fk, ftn⟩, fst⟩ := f; obtain ⟨rfl, _⟩ := wf; have HBw := HB0.out.trans (HBr.out.mono HB0.out.size); have r0 := hc wr HBw 0 _ rfl; have r1 := hc wr HBw 1 _ rfl; have r2 := hc wr HBw 2 _ rfl; have r3 := hc wr HBw 3 _ rfl; rw [Nat.add_zero] at r0; dsimp only at r0 r1 r2 r3 HTk; have hlt' : (k : Int) < (n : Int) := by omega
    clear hx hc HBw; have hA : Below wr.heap.size wr (wr.alloc (.cells #[.string ⟨fnm.toArray⟩, .int .i64 fk, .string ⟨ftn.toArray⟩, .bool fst] 43)) := (Below.refl _ _).alloc (Nat.le_refl _) _; have HBA := hide (HBr.out.trans (hA.mono HBr.out.size)); have HOA := hide (HO.out.on hA fun _ _ h => h); have hbx := heap_alloc_new wr (.cells #[.string ⟨fnm.toArray⟩, .int .i64 fk, .string ⟨ftn.toArray⟩, .bool fst] 43); have b0 := cell_box hbx 0; have b1 := cell_box hbx 1; have b2 := cell_box hbx 2; have b3 := cell_box hbx 3; have b4 := HC.out _ HBA.out; clear hA hbx; by_cases hs : fst = st
    · subst hs
      have HTk0 : Hid (Pp.ownL c fst (c.fields.take (k + 1)) = Pp.ownL c fst (c.fields.take k) ++ [⟨c.name, fnm, ⟨fk, ftn⟩⟩]) := hide (by rw [HTk.out, if_pos rfl])
      have HRo : Hid (∀ w1 : World, RowX (w1.alloc (.cells #[.string NB, .string ⟨fnm.toArray⟩, .int .i64 fk, .string ⟨ftn.toArray⟩] 80)) 4 SltX (.slice (some ⟨w1.heap.size, 0, none⟩) 1 1) [⟨c.name, fnm, ⟨fk, ftn⟩⟩]) := hide fun w1 => by
       rw [HNB.out]; exact Ow.row_one' (P := SltX) (x := ⟨c.name, fnm, ⟨fk, ftn⟩⟩) (ys := [.string ⟨c.name.toArray⟩, .string ⟨fnm.toArray⟩, .int .i64 fk, .string ⟨ftn.toArray⟩]) rfl
      have hll : (Pp.ownL c fst (c.fields.take k)).length <= 100 := by rw [<- HLn.out]; exact hlk
      have HO2 := hide (HOA.out.on (w' := (wr.alloc (.cells #[.string ⟨fnm.toArray⟩, .int .i64 fk, .string ⟨ftn.toArray⟩, .bool fst] 43)).alloc (.cells #[.string NB, .string ⟨fnm.toArray⟩, .int .i64 fk, .string ⟨ftn.toArray⟩] 80)) ((Below.refl _ _).alloc (Nat.le_refl _) _) fun _ _ h => h); have HR2 := hide (HRo.out (wr.alloc (.cells #[.string ⟨fnm.toArray⟩, .int .i64 fk, .string ⟨ftn.toArray⟩, .bool fst] 43))); have HB2 := hide (HBA.out.trans (((Below.refl _ _).alloc (Nat.le_refl _) (.cells #[.string NB, .string ⟨fnm.toArray⟩, .int .i64 fk, .string ⟨ftn.toArray⟩] 80)).mono HBA.out.size)); clear HRo HOA HBA
      go_wp2_with (at_builtin; refine Ow.wpList_app rfl (.tmp 19) (.tmp 27) 77 rfl Tryz.underlying77 hj hj0 hj1 hj2 (by decide) shp_slt (by first | rfl | simp [Act.eval, Act.put]) HO2.out (by first | rfl | simp [Act.eval, Act.put]) HR2.out (by simp; omega) (by decide) HB2.out.size ?_)
      intro v5 w5 ho5 hg5; have HB5 := hide (HB2.out.trans (Ow.bel_grown HO2.out HB2.out.size hg5)); have HO5 := hide ho5; clear ho5 hg5 HO2 HR2 HB2; obtain ⟨xa, xc, rfl⟩ := HO5.out.shape; go_wp2_with fail
      go_roundw
      case rel => exact ⟨k + 1, xa, xc, _, by omega, by go_num, rfl, by rw [HTk0.out], HB5, by rw [HTk0.out]; exact hide (by have := HO5.out; simpa using this)⟩
      case measure => simp [intOf]; omega
    · have hs' : (fst == st) = false := by simpa using hs
      have HTk0 : Hid (Pp.ownL c st (c.fields.take (k + 1)) = Pp.ownL c st (c.fields.take k)) := hide (by rw [HTk.out, if_neg hs, List.append_nil])
      clear hs; go_wp2_with fail
      go_roundw
      case rel => exact ⟨k + 1, la, lc, ln, by omega, by go_num, rfl, by rw [HTk0.out]; exact HLn.out, HBA, by rw [HTk0.out]; exact HOA⟩
      case measure => simp [intOf]; omega
  · have hkn : k = n := by omega
    subst hkn; have HE : Hid (Pp.ownL c st (c.fields.take k) = Pp.ownL c st c.fields) := hide (by rw [List.take_of_length_le (by rw [<- HN.out]; exact Nat.le_refl _)])
    have hnl : ¬ ((k : Int) < (k : Int)) := by omega
    go_wp2_with fail; go_ret; refine ⟨_, rfl, ?_, HB0.out.trans (HBr.out.mono HB0.out.size)⟩; have := HO.out.low HB0.out.size fun _ _ h => h; rw [HE.out] at this; exact this
def lookL (acc more : List Nat) : List Nat := more.foldl (fun a b => if b ∈ a then a else a ++ [b]) acc
theorem lookL_snoc (acc more : List Nat) (b : Nat) : lookL acc (more ++ [b]) = if b ∈ lookL acc more then lookL acc more else lookL acc more ++ [b] := by
 unfold lookL; rw [List.foldl_append]; rfl
theorem lookL_len (acc : List Nat) : ∀ more : List Nat, (lookL acc more).length <= acc.length + more.length := by
 unfold lookL; intro more
 induction more generalizing acc with
 | nil => simp
 | cons b r ih =>
   rw [List.foldl_cons]; have := ih (if b ∈ acc then acc else acc ++ [b])
   have h2 : (if b ∈ acc then acc else acc ++ [b]).length <= acc.length + 1 := by split <;> simp
   simp only [List.length_cons]; omega
def Live (w : World) (l : List Nat) : Prop := ∀ x ∈ l, ∃ c, w.heap[x]? = some (.cells c 140 (0, 0))
theorem i_tab : (Tryz.prog.info? 140).map (fun i => (i.zero.map (fun z => z.cells.size), i.size, i.bytes)) = some (some 14, 14, 232) := by kernel_rfl
theorem eq_tab (w : World) (x y : Nat) (hx : ∃ c, w.heap[x]? = some (.cells c 140 (0, 0))) (hy : ∃ c, w.heap[y]? = some (.cells c 140 (0, 0))) :
 (binOp .eql 125 (.pointer (some ⟨x, 0, none⟩)) (.pointer (some ⟨y, 0, none⟩))).run Tryz.prog w = .ok (.bool (decide (x = y))) w := by
 obtain ⟨j0, hj, _, hj1, _⟩ := Ow.info_of' i_tab; by_cases h : x = y
 · subst h
   rw [decide_eq_true rfl]; exact run_eql_ptr_same w _ Tryz.underlying125 hj
 · rw [decide_eq_false h]
   obtain ⟨cx, hx⟩ := hx; obtain ⟨cy, hy⟩ := hy; exact run_eql_ptr_other w Tryz.underlying125 hj (by rw [hj1]; decide) (fun e => h (by injection e)) hx hy
theorem indexT_any (l : List Nat) (b : Nat) (v : Value) (w : World) (h : RowX w 1 PtrX v l) (hn : l.length <= 1000) (hl : Live w (b :: l)) :
 Calls Tryz.prog 117 #[v, .pointer (some ⟨b, 0, none⟩)] w fun e w' => (∃ n : Int, e = .returned (.int .i64 n) /\ (0 <= n ↔ b ∈ l)) /\ w' = w := by
 have HR := hide h; have HL := hide hl; obtain ⟨a, c, rfl, _⟩ := h.len; clear h hl; obtain ⟨n, hn'⟩ : ∃ q, q = l.length := ⟨_, rfl⟩; have HN := hide hn'; rw [<- hn'] at HR hn ⊢; clear hn'; go_enter Tryz.func117, Tryz.ntmps117; go_wp2_with fail
 go_loop [8] (fun i => ∃ k : Nat, k <= n /\ i = .int .i64 k /\ Hid (b ∉ l.take k)) (fun i => n - (intOf i).toNat)
 case atStart => exact ⟨0, Nat.zero_le _, rfl, hide (by simp)⟩
 case round =>
  obtain ⟨k, hk, rfl, HNo⟩ := hrel; by_cases hlt : k < n
  · obtain ⟨x, hx⟩ : ∃ x, l[k]? = some x := ⟨l[k]'(by rw [<- HN.out]; exact hlt), List.getElem?_eq_getElem _⟩
    obtain ⟨g, o, eg, ys, wf, hc⟩ := Ow.row_at' HR.out hx; subst eg; have hwf : ys = [.pointer (some ⟨x, 0, none⟩)] := wf; subst hwf; have r0 := hc w (Below.refl _ _) 0 _ rfl; rw [Nat.add_zero, Nat.mul_one] at r0; have HX := hide hx; have hlt' : (k : Int) < (n : Int) := by omega
    have hq := eq_tab w b x (HL.out b (by simp)) (HL.out x (by simp [List.mem_of_getElem? hx]))
    clear hc wf hx; by_cases hb : b = x
    · rw [decide_eq_true hb] at hq
      rw [<- hb] at HX; have HIn := hide (List.mem_of_getElem? HX.out); clear hb; go_wp2_with fail; go_ret; exact ⟨⟨_, rfl, by constructor <;> intro _ <;> first | exact HIn.out | omega⟩, rfl⟩
    · rw [decide_eq_false hb] at hq
      have HNo2 : Hid (b ∉ l.take (k + 1)) := hide (by
       rw [List.take_add_one, HX.out, List.mem_append]; rintro (h | h)
       · exact HNo.out h
       · simp at h; exact hb h)
      clear hb; go_wp2_with fail
      go_round
      case rel => exact ⟨k + 1, by omega, by go_num, HNo2⟩
      case measure => simp [intOf]; omega
  · have HN2 : Hid (b ∉ l) := hide (by have := HNo.out; rwa [List.take_of_length_le (by rw [<- HN.out]; omega)] at this)
    have hnl : ¬ ((k : Int) < (n : Int)) := by omega
    go_wp2_with fail; go_ret; exact ⟨⟨_, rfl, by constructor <;> intro h <;> first | exact absurd h HN2.out | omega⟩, rfl⟩
theorem hasT_any (l : List Nat) (b : Nat) (v : Value) (w : World) (h : RowX w 1 PtrX v l) (hn : l.length <= 1000) (hl : Live w (b :: l)) :
 Calls Tryz.prog 98 #[v, .pointer (some ⟨b, 0, none⟩)] w fun e w' => e = .returned (.bool (decide (b ∈ l))) /\ w' = w := by
 have hI := hide (indexT_any l b v w h hn hl); obtain ⟨a, c, rfl, _⟩ := h.len; clear h hl; go_enter Tryz.func98, Tryz.ntmps98; go_wp2_with fail; refine hI.out.mono ?_; rintro e w1 ⟨⟨m, rfl, hm⟩, hw1⟩; have hw1' := hw1.symm; subst hw1'; have HM := hide hm; clear hI hm hw1; go_wp2_with fail; go_ret; refine ⟨?_, rfl⟩; by_cases h : b ∈ l
 · rw [decide_eq_true h]; have := HM.out.2 h; simp; omega
 · rw [decide_eq_false h]; have : ¬ 0 <= m := fun h2 => h (HM.out.1 h2); simp; omega
structure Fx (S : Nat -> Prop) (w w' : World) : Prop where
 bel : Below 0 w w'
 blk : ∀ k, k < w.heap.size -> ¬ S k -> w'.heap[k]? = w.heap[k]?
theorem Fx.refl (S : Nat -> Prop) (w : World) : Fx S w w := ⟨Below.refl _ _, fun _ _ _ => rfl⟩
theorem Fx.size {S : Nat -> Prop} {w w' : World} (h : Fx S w w') : w.heap.size <= w'.heap.size := h.bel.size
theorem Fx.trans {S : Nat -> Prop} {a b c : World} (h : Fx S a b) (k : Fx S b c) : Fx S a c :=
 ⟨h.bel.trans k.bel, fun i hi hn => (k.blk i (Nat.lt_of_lt_of_le hi h.size) hn).trans (h.blk i hi hn)⟩
theorem Fx.mono {S S' : Nat -> Prop} {a b : World} (h : Fx S a b) (hs : ∀ k, k < a.heap.size -> S k -> S' k) : Fx S' a b := ⟨h.bel, fun k hk hn => h.blk k hk fun hx => hn (hs k hk hx)⟩
theorem Fx.below {S : Nat -> Prop} {a b : World} (h : Below a.heap.size a b) : Fx S a b := ⟨h.mono (Nat.zero_le _), fun k hk _ => h.block k hk⟩
theorem Fx.alloc (S : Nat -> Prop) (w : World) (o : Obj) : Fx S w (w.alloc o) := Fx.below ((Below.refl _ _).alloc (Nat.le_refl _) o)
theorem Fx.set {S : Nat -> Prop} {w : World} {b k : Nat} (hb : S b) (u : Value) : Fx S w (w.setCell ⟨b, k, none⟩ u) :=
 ⟨(Below.refl 0 w).setCell (Nat.zero_le _) u, fun i _ hn => Below.heap_setCell _ _ _ _ (fun h => hn (h ▸ hb))⟩
theorem Fx.grown {w w' : World} {r : Option Nat} (h : w.grownBy w' r) : Fx (fun k => r = some k) w w' :=
 ⟨Below.grown (Below.refl 0 w) h (Nat.zero_le _) (fun _ _ => Nat.zero_le _), fun k hk hn => h.block k hk fun e => hn e.symm⟩
def Stb {α : Type} (S : Nat -> Prop) (w : World) (sz : Nat) (P : α -> List Value -> Prop) (v : Value) (l : List α) : Prop :=
 ∃ a c, v = .slice a l.length c /\ l.length <= c /\ (l = [] \/ ∃ b o, a = some ⟨b, o, none⟩ /\ b < w.heap.size /\ ¬ S b /\ ∀ (k : Nat) (x : α), l[k]? = some x -> ∃ ys, P x ys /\ ∀ (j : Nat) (u : Value), ys[j]? = some u -> w.cell? ⟨b, o + k * sz + j, none⟩ = some u)
theorem Stb.row {α : Type} {S : Nat -> Prop} {w : World} {sz : Nat} {P : α -> List Value -> Prop} {v : Value} {l : List α} (h : Stb S w sz P v l) : RowX w sz P v l := by
 obtain ⟨a, c, h1, h2, h⟩ := h; refine ⟨a, c, h1, h2, ?_⟩
 rcases h with h | ⟨b, o, h3, h4, _, h5⟩
 · exact .inl h
 · exact .inr ⟨b, o, h3, h4, h5⟩
theorem cell_of_blk {w w' : World} {b k : Nat} (h : w'.heap[b]? = w.heap[b]?) : w'.cell? ⟨b, k, none⟩ = w.cell? ⟨b, k, none⟩ := by
 unfold World.cell?; simp only [h]
theorem Stb.on {α : Type} {S : Nat -> Prop} {w w' : World} {sz : Nat} {P P' : α -> List Value -> Prop} {v : Value} {l : List α} (h : Stb S w sz P v l) (hf : Fx S w w') (hp : ∀ x ys, P x ys -> P' x ys) : Stb S w' sz P' v l := by
 obtain ⟨a, c, h1, h2, h⟩ := h; refine ⟨a, c, h1, h2, ?_⟩
 rcases h with h | ⟨b, o, h3, h4, h5, h6⟩
 · exact .inl h
 · refine .inr ⟨b, o, h3, Nat.lt_of_lt_of_le h4 hf.size, h5, fun k x hk => ?_⟩
   obtain ⟨ys, p1, p2⟩ := h6 k x hk; exact ⟨ys, hp x ys p1, fun j u hj => (cell_of_blk (hf.blk b h4 h5)).trans (p2 j u hj)⟩
theorem Stb.sub {α : Type} {S S' : Nat -> Prop} {w : World} {sz : Nat} {P : α -> List Value -> Prop} {v : Value} {l : List α} (h : Stb S w sz P v l) (hs : ∀ k, k < w.heap.size -> S' k -> S k) : Stb S' w sz P v l := by
 obtain ⟨a, c, h1, h2, h⟩ := h; refine ⟨a, c, h1, h2, ?_⟩
 rcases h with h | ⟨b, o, h3, h4, h5, h6⟩
 · exact .inl h
 · exact .inr ⟨b, o, h3, h4, fun hx => h5 (hs b h4 hx), h6⟩
theorem Live.on {S : Nat -> Prop} {w w' : World} {l : List Nat} (h : Live w l) (hf : Fx S w w') (hs : ∀ x ∈ l, ¬ S x) : Live w' l := fun x hx => by
 obtain ⟨c, hc⟩ := h x hx; exact ⟨c, (hf.blk x (Ow.lt_of_blk hc) (hs x hx)).trans hc⟩
namespace Ow
section
variable {α : Type} {P : α -> List Value -> Prop} {sz base e : Nat} {w : World} {v : Value} {l : List α}
theorem run_app2s {Pr : Program} {t ty : TypeId} {i : TypeInfo} {n bytes : Nat} (ht : Pr.underlying t = some (.slice e)) (hi : Pr.info? e = some i) (hz : i.zero.map (fun z => z.cells.size) = some sz) (hsize : i.size = sz) (hby : i.bytes = bytes) (hsz : 0 < sz) (hs : Shp P sz)
 (ho : OwnX w base e sz P v l) {v2 : Value} {l2 : List α} (hr : RowX w sz P v2 l2) (h63 : l.length + l2.length <= 1000000) (hb2 : bytes <= 1000) (hbase : base <= w.heap.size) :
 ∃ v' w', (Builtin.append_ #[t, t] ty #[v, v2]).run Pr w = .ok v' w' /\ OwnX w' base e sz P v' (l ++ l2) /\ w.grownBy w' v.ownBlock /\ (v'.ownBlock = v.ownBlock \/ v'.ownBlock = some w.heap.size) := by
 cases hzz : i.zero with
 | none => rw [hzz] at hz; cases hz
 | some z =>
   rw [hzz] at hz; simp at hz; obtain ⟨a, c, rfl, hc, hr⟩ := hr; obtain ⟨news, hf, hown⟩ := ho
   have key : ∀ (ad : Addr) (news2 : List Value), Flat P l2 news2 -> (∀ j u, news2[j]? = some u -> w.cell? (ad.add j) = some u) -> ∃ v' w', (Builtin.append_ #[t, t] ty #[v, .slice (some ad) l2.length c]).run Pr w = .ok v' w' /\ OwnX w' base e sz P v' (l ++ l2) /\ w.grownBy w' v.ownBlock /\ (v'.ownBlock = v.ownBlock \/ v'.ownBlock = some w.heap.size) := by
    intro ad news2 hf2 hc2; have hbb : (l.length + l2.length) * bytes <= 1000000 * 1000 := Nat.mul_le_mul h63 hb2; obtain ⟨v', w', h1, h2, h3, _, h5⟩ := run_append_own_at (P := Pr) w base t ty e i z sz bytes ht hi hzz hsize hby hz hsz v l.length news hown ad l2.length c news2 (hf2.len hs) hc2 (hf2.ones hs) (by unfold maxLen; omega) (by omega) hbase
    exact ⟨v', w', h1, ⟨news ++ news2, hf.app hf2, by rw [List.length_append]; exact h2⟩, h3, h5⟩
   rcases hr with rfl | ⟨b, o, rfl, hlt, hx⟩
   · cases a with
     | some ad => exact key ad [] rfl (by intro j u hj; simp at hj)
     | none =>
       refine ⟨v, w, ?_, ⟨news, by simpa using hf, by simpa using hown⟩, ⟨rfl, rfl, rfl, Nat.le_refl _, fun _ _ _ => rfl⟩, .inl rfl⟩
       rcases hown.2 with ⟨rfl, _⟩ | ⟨g, cap, cur, rfl, _, _, hnc, _⟩
       · simp [Builtin.append_, run_underlying ht, sizeOf, typeInfo, hi, Builtin.lenOf, Builtin.firstCells, loadCells, loadCellsFrom]
       · simp [Builtin.append_, run_underlying ht, sizeOf, typeInfo, hi, Builtin.lenOf, Builtin.firstCells, loadCells, loadCellsFrom, hnc, storeCells]
   · obtain ⟨news2, hf2, hc2⟩ := flat_of hs l2 o hx
     exact key ⟨b, o, none⟩ news2 hf2 (fun j u hj => by rw [Go.WideShapes.add_plain]; exact hc2 j u hj)
theorem wpList_app2s {Pr : Program} {ops : Array Oper} {rest : List Oper} {o : Oper} {a : Act} {Q : Exit -> Act -> World -> Prop} (hgd : o.guard = none) (s x : Operand) (t : TypeId)
 (hop : o.op = .call { callee := .builtin .append, args := #[s, x], argTypes := #[t, t] }) {i : TypeInfo} {bytes : Nat}
 (ht : Pr.underlying t = some (.slice e)) (hi : Pr.info? e = some i) (hz : i.zero.map (fun z => z.cells.size) = some sz) (hsize : i.size = sz) (hby : i.bytes = bytes) (hsz : 0 < sz) (hs : Shp P sz)
 (hv : a.eval s = v) (ho : OwnX w base e sz P v l) {v2 : Value} {l2 : List α} (hv2 : a.eval x = v2) (hr : RowX w sz P v2 l2) (h63 : l.length + l2.length <= 1000000) (hb2 : bytes <= 1000) (hbase : base <= w.heap.size)
 (h : ∀ v' w', OwnX w' base e sz P v' (l ++ l2) -> w.grownBy w' v.ownBlock -> (v'.ownBlock = v.ownBlock \/ v'.ownBlock = some w.heap.size) -> wpList Pr ops Q rest (a.put o.dst v') w') : wpList Pr ops Q (o :: rest) a w := by
 refine wpList_plain hgd fun K hK => ?_; obtain ⟨v', w', hrun, h1, h2, h3⟩ := run_app2s (Pr := Pr) (t := t) (ty := o.type) (n := 0) ht hi hz hsize hby hsz hs ho hr h63 hb2 hbase; unfold Oper.wp execOp; simp only [hop, resolve, invoke, builtin, Sem.run_bind, Sem.run_pure, Result.andThen_ok, List.map_toArray, List.map_cons, List.map_nil, hv, hv2, hrun]; exact hK _ _ (h v' w' h1 h2 h3)
end
end Ow
end Go.Proofs.YtbbbnciejmdpfabGreatDoor

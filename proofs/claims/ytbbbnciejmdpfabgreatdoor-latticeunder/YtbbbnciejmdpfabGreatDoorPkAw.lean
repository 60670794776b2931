/- What the laws of this seat lean on: 3 texts. -/
import Derived.Test.YtbbbnciejmdpfabGreatDoorPkAv
import Derived.Test.YtbbbnciejmdpfabGreatDoorPkAk
import Derived.Test.YtbbbnciejmdpfabGreatDoorPkAo
set_option maxRecDepth 100000
set_option maxHeartbeats 64000000
set_option linter.unusedVariables false
set_option linter.unusedSimpArgs false
namespace Go.Proofs.YtbbbnciejmdpfabGreatDoor
namespace Ly
open Pp Hr
def tyB (a b : Ty) : Bool := a.kind == b.kind && a.name == b.name
theorem tyB_iff (a b : Ty) : tyB a b = true ↔ a = b := by
 obtain ⟨k, n⟩ := a; obtain ⟨k', n'⟩ := b; simp [tyB]
def tysB : List Ty -> List Ty -> Bool
 | [], [] => true
 | a :: l, b :: m => tyB a b && tysB l m
 | _, _ => false
theorem tysB_iff : ∀ (l m : List Ty), tysB l m = true ↔ l = m
 | [], [] => by simp [tysB]
 | a :: l, [] => by simp [tysB]
 | [], b :: m => by simp [tysB]
 | a :: l, b :: m => by simp [tysB, tyB_iff, tysB_iff l m]
def alikeB (a b : XMth) : Bool := tysB a.params b.params && tyB a.ret b.ret
theorem alikeB_iff (a b : XMth) : alikeB a b = true ↔ a.params = b.params /\ a.ret = b.ret := by simp [alikeB, tyB_iff, tysB_iff]
def fldsOk (c : XCls) : Bool := !(c.iface && decide (0 < c.fields.length)) && c.fields.all fun f => f.ty.kind != 1
def mthOk (c : XCls) (m : XMth) : Bool := m.abst == c.iface && (!(c.iface && m.stat) && m.params.all fun t => t.kind != 1)
def formedB (c : XCls) : Bool := fldsOk c && c.methods.all (mthOk c)
def typesL (c : XCls) : List Ty := c.fields.map (·.ty) ++ c.methods.flatMap fun m => m.params ++ [m.ret]
def knownT (l : List XCls) (t : Ty) : Bool := t.name == [] || (placeL l t.name).isSome
def knownB (l : List XCls) (c : XCls) : Bool := (typesL c).all (knownT l)
def twiceP (c : XCls) : Prop := ¬ ((c.fields.map (·.name)).Nodup /\ (c.methods.map (·.name)).Nodup)
def twiceB (c : XCls) : Bool := !(decide ((c.fields.map (·.name)).Nodup) && decide ((c.methods.map (·.name)).Nodup))
theorem twiceB_iff (c : XCls) : twiceB c = true ↔ twiceP c := by
 unfold twiceB twiceP; simp only [Bool.not_eq_true', Bool.and_eq_false_iff, decide_eq_false_iff_not]; constructor
 · rintro (h | h) ⟨h1, h2⟩
   · exact h h1
   · exact h h2
 · intro h
   by_cases h1 : (c.fields.map (·.name)).Nodup
   · exact .inr fun h2 => h ⟨h1, h2⟩
   · exact .inl h1
def memF (l : List XCls) (c : XCls) : Int := if formedB c = true then (if twiceB c = true then 6 else if knownB l c = true then 0 else 5) else 4
def methP (N : Net) (b : Nat) (nm : Bs) : Option (Bs × XMth) := (N.mt b).find? fun o => o.2.name == nm
def slotP (N : Net) (b : Nat) (nm : Bs) : Bool := (N.sl b).any fun t => t.name == nm
def clashF (N : Net) (s : Nat) (f : Fld) : Bool := !f.stat && slotP N s f.name
def clashM (N : Net) (s : Nat) (m : XMth) : Bool := match methP N s m.name with
 | none => false
 | some o => o.2.stat != m.stat || !alikeB o.2 m
def supF (N : Net) (b : Nat) : Int := match N.sup b with
 | none => 0
 | some s => if (N.cl b).fields.any (clashF N s) = true then 6 else if (N.cl b).methods.any (clashM N s) = true then 8 else 0
def lackF (N : Net) (b : Nat) (m : XMth) : Int := match methP N b m.name with
 | none => 5
 | some o => if (o.2.stat || !alikeB o.2 m) = true then 8 else 0
def faceF (N : Net) (b i : Nat) : Int := if i ∈ N.ab b then firstL (lackF N b) (N.cl i).methods else 0
def ifcF (N : Net) (bs : List Nat) (b : Nat) : Int := if (N.cl b).iface = true then 0 else firstL (faceF N b) bs
def checkF (N : Net) (l : List XCls) (bs : List Nat) : Int :=
 if firstL (fun b => memF l (N.cl b)) bs = 0 then (if firstL (supF N) bs = 0 then firstL (ifcF N bs) bs else firstL (supF N) bs) else firstL (fun b => memF l (N.cl b)) bs
theorem Img.methP {P N : Net} {f : Nat -> Nat} (h : Img P N f) (hG : P.Good) (k : Nat) (hk : P.T k) (nm : Bs) : methP N (f k) nm = methP P k nm := by unfold Ly.methP; rw [h.mt' hG k hk]
theorem Img.slotP {P N : Net} {f : Nat -> Nat} (h : Img P N f) (hG : P.Good) (k : Nat) (hk : P.T k) (nm : Bs) : slotP N (f k) nm = slotP P k nm := by unfold Ly.slotP; rw [h.sl' hG k hk]
theorem Img.supF {P N : Net} {f : Nat -> Nat} (h : Img P N f) (hG : P.Good) (k : Nat) (hk : P.T k) : supF N (f k) = supF P k := by
 unfold Ly.supF; rw [h.sup k hk, h.cl k hk]; cases hs : P.sup k with
 | none => rfl
 | some s =>
   have hT := (hG.sup k s hk hs).1; have h1 : clashF N (f s) = clashF P s := funext fun x => by unfold clashF; rw [h.slotP hG s hT]
   have h2 : clashM N (f s) = clashM P s := funext fun x => by unfold clashM; rw [h.methP hG s hT]
   show (if (P.cl k).fields.any (clashF N (f s)) = true then (6 : Int) else if (P.cl k).methods.any (clashM N (f s)) = true then 8 else 0) = _
   rw [h1, h2]
theorem Img.ifcF {P N : Net} {f : Nat -> Nat} (h : Img P N f) (hG : P.Good) (l : List Nat) (hl : ∀ x ∈ l, P.T x) (k : Nat) (hk : P.T k) : ifcF N (l.map f) (f k) = ifcF P l k := by
 unfold Ly.ifcF; rw [h.cl k hk]
 split
 · rfl
 · refine firstL_congr f fun i hi => ?_
   have h1 : lackF N (f k) = lackF P k := funext fun m => by unfold lackF; rw [h.methP hG k hk]
   unfold faceF; rw [h.ab hG k hk, h1, h.cl i (hl i hi)]; by_cases hm : i ∈ P.ab k
   · rw [if_pos hm, if_pos (List.mem_map.2 ⟨i, hm, rfl⟩)]
   · rw [if_neg hm, if_neg]
     intro hx; obtain ⟨q, hq, e⟩ := List.mem_map.1 hx; exact hm ((h.inj q i (abF_T hG _ k hk q hq) (hl i hi) e) ▸ hq)
theorem Img.checkF {P N : Net} {f : Nat -> Nat} (h : Img P N f) (hG : P.Good) (cs : List XCls) (l : List Nat) (hl : ∀ x ∈ l, P.T x) : checkF N cs (l.map f) = checkF P cs l := by
 have h1 : firstL (fun b => memF cs (N.cl b)) (l.map f) = firstL (fun b => memF cs (P.cl b)) l := firstL_congr f fun x hx => by rw [h.cl x (hl x hx)]
 have h2 : firstL (Ly.supF N) (l.map f) = firstL (Ly.supF P) l := firstL_congr f fun x hx => h.supF hG x (hl x hx); have h3 : firstL (Ly.ifcF N (l.map f)) (l.map f) = firstL (Ly.ifcF P l) l := firstL_congr f fun x hx => h.ifcF hG l hl x (hl x hx); unfold Ly.checkF; rw [h1, h2, h3]
def layE (cs : List XCls) : Int := if errL cs = 0 then (match growL (allL cs) (allL cs) with
 | some up => checkF (pnet (allL cs) up) (allL cs) (List.range (allL cs).length)
 | none => 0) else errL cs
end Ly
open Go.RowKit
def Rdy (N : Net) (w0 w : World) (A : Nat -> Prop) : Prop := Below w0.heap.size w0 w /\ (∃ D : Nat -> Prop, ∀ b, N.T b -> Ent N w0 w D A b) /\ (∀ k, N.T k -> w0.heap.size <= k /\ k < w.heap.size) /\ ∀ k, A k -> w0.heap.size <= k /\ k < w.heap.size /\ ¬ N.T k
theorem Rdy.on {N : Net} {w0 w w' : World} {A : Nat -> Prop} (h : Rdy N w0 w A) (hb : Below w.heap.size w w') : Rdy N w0 w' A := by
 obtain ⟨h1, ⟨D, h2⟩, h3, h4⟩ := h; refine ⟨h1.trans (hb.mono h1.size), ⟨D, fun b hT => (h2 b hT).on (S := fun _ => False) ⟨hb.mono (Nat.zero_le _), fun k hk _ => hb.block k hk⟩ (fun _ _ h => h.elim) Iff.rfl⟩, fun k hk => ⟨(h3 k hk).1, Nat.lt_of_lt_of_le (h3 k hk).2 hb.size⟩, fun k hk => ⟨(h4 k hk).1, Nat.lt_of_lt_of_le (h4 k hk).2.1 hb.size, (h4 k hk).2.2⟩⟩
theorem Rdy.alloc {N : Net} {w0 w : World} {A : Nat -> Prop} (h : Rdy N w0 w A) (o : Obj) : Rdy N w0 (w.alloc o) (fun k => A k \/ k = w.heap.size) := by
 have hb : Below w.heap.size w (w.alloc o) := (Below.refl _ _).alloc (Nat.le_refl _) o; obtain ⟨h1, ⟨D, h2⟩, h3, h4⟩ := h; refine ⟨h1.trans (hb.mono h1.size), ⟨D, fun b hT => ((h2 b hT).more (A' := fun k => A k \/ k = w.heap.size) (fun k hk h => h.resolve_right fun e => by omega)).on (S := fun _ => False) ⟨hb.mono (Nat.zero_le _), fun k hk _ => hb.block k hk⟩ (fun _ _ h => h.elim) Iff.rfl⟩, fun k hk => ⟨(h3 k hk).1, Nat.lt_of_lt_of_le (h3 k hk).2 hb.size⟩, fun k hk => ?_⟩
 rcases hk with hk | rfl
 · exact ⟨(h4 k hk).1, Nat.lt_of_lt_of_le (h4 k hk).2.1 hb.size, (h4 k hk).2.2⟩
 · exact ⟨h1.size, by simp, fun hT => by have := (h3 _ hT).2; omega⟩
theorem Rdy.less {N : Net} {w0 w : World} {A A' : Nat -> Prop} (h : Rdy N w0 w A) (ha : ∀ k, A' k -> A k) : Rdy N w0 w A' := by
 obtain ⟨h1, ⟨D, h2⟩, h3, h4⟩ := h; exact ⟨h1, ⟨D, fun b hT => (h2 b hT).more fun k _ h => ha k h⟩, h3, fun k hk => h4 k (ha k hk)⟩
theorem Rdy.put {N : Net} {w0 w w' : World} {A S : Nat -> Prop} (h : Rdy N w0 w A) (hf : Fx S w w') (hs : ∀ k, S k -> A k) : Rdy N w0 w' A := by
 obtain ⟨h1, ⟨D, h2⟩, h3, h4⟩ := h; refine ⟨below_fx h1 hf fun k hk => (h4 k (hs k hk)).1, ⟨D, fun b hT => (h2 b hT).on hf (fun k _ hk => ⟨fun e => (h4 k (hs k hk)).2.2 (e ▸ hT), .inr (hs k hk)⟩) Iff.rfl⟩, fun k hk => ⟨(h3 k hk).1, Nat.lt_of_lt_of_le (h3 k hk).2 hf.size⟩, fun k hk => ⟨(h4 k hk).1, Nat.lt_of_lt_of_le (h4 k hk).2.1 hf.size, (h4 k hk).2.2⟩⟩
def Mded (N : Net) (w0 w : World) (A : Nat -> Prop) (b : Nat) : Prop := ∃ cs, w.heap[b]? = some (.cells cs 140 (0, 0)) /\ Done N w0 w (fun k => N.T k \/ A k) cs b
theorem Rdy.head {N : Net} {w0 w : World} {A : Nat -> Prop} (h : Rdy N w0 w A) {b : Nat} (hb : N.T b) : ∃ cs, w.heap[b]? = some (.cells cs 140 (0, 0)) /\ Self N w0 w (fun k => N.T k \/ A k) cs b := by
 obtain ⟨_, ⟨D, h2⟩, _⟩ := h; obtain ⟨cs, h1, h3, _⟩ := h2 b hb; exact ⟨cs, h1, h3⟩
theorem made_rdy (N : Net) (hG : N.Good) (hN : N.Small) (w0 : World) (x : Nat) (hT : N.T x) (w : World) (A : Nat -> Prop) (h : Rdy N w0 w A) :
 Calls Tryz.prog 99 #[.pointer (some ⟨x, 0, none⟩)] w fun e w' => e = .returned (.pointer (some ⟨x, 0, none⟩)) /\ Rdy N w0 w' A /\ Fx N.T w w' /\ Mded N w0 w' A x := by
 obtain ⟨h1, ⟨D, h2⟩, h3, h4⟩ := h; refine (made_all N w0 (fun y hy hlow v D A r hr hI hD hA hB hTk => ?_) (N.rk x + 1) x hT (Nat.lt_succ_self _) w D A (N.rk x + 1) (Nat.lt_succ_self _) (fun b hb _ => h2 b hb) (fun k hk => (h4 k hk).2) h1 (fun k hk => (h3 k hk).2)).mono ?_
 · obtain ⟨cs, e1, e2, e9, e10, _, e6⟩ := hI y hy hr
   obtain ⟨e8, ebare⟩ := e6 hD; have hf : Fx (fun k => k = y) v (v.setCell ⟨y, 9, none⟩ (.int .i32 1)) := Fx.set (S := fun k => k = y) rfl _; have hs14 := e2.1; refine fill_any N hG hN w0 y hy hlow _ D A (cs.setIfInBounds 9 (.int .i32 1)) ?_ (put_blk e1 _) ?_ ?_ hD ?_ ?_ (fun k hk => (h3 k hk).1) ?_
   · exact Inv.step (r := N.rk y) (fun b hb hbr => hI b hb (by omega)) hf (fun k _ hk => ⟨fun _ => by rw [show k = y from hk]; exact Nat.le_refl _, .inl (by rw [show k = y from hk]; exact hy)⟩) (fun _ _ h => h)
   · exact (e2.on hf (fun k _ hk => .inl (by rw [show k = y from hk]; exact hy))).cells (by simp [hs14]) (fun k hk => set_at _ (by omega))
   · exact ⟨(set_at _ (by decide)).trans ebare.1, (set_at _ (by decide)).trans ebare.2.1, (set_at _ (by decide)).trans ebare.2.2⟩
   · exact fun k hk => ⟨Nat.lt_of_lt_of_le (hA k hk).1 hf.size, (hA k hk).2⟩
   · exact fun k hk => Nat.lt_of_lt_of_le (hTk k hk) hf.size
   · exact below_fx hB hf (fun k hk => by rw [show k = y from hk]; exact (h3 y hy).1)
 · rintro e w' ⟨rfl, D', d1, d2, d3, d4, d5⟩
   have hB' : Below w0.heap.size w0 w' := below_fx h1 d5 (fun k hk => (h3 k hk.1).1); refine ⟨rfl, ⟨hB', ⟨D', fun b hb => ?_⟩, fun k hk => ⟨(h3 k hk).1, Nat.lt_of_lt_of_le (h3 k hk).2 d5.size⟩, fun k hk => ⟨(h4 k hk).1, Nat.lt_of_lt_of_le (h4 k hk).2.1 d5.size, (h4 k hk).2.2⟩⟩, d5.mono fun _ _ h => h.1, ?_⟩
   · by_cases hr : N.rk b < N.rk x + 1
     · exact d4 b hb hr
     · refine (h2 b hb).on d5 (fun k _ hk => ⟨?_, .inl hk.1⟩) ⟨fun h => ?_, d1 b⟩
       · rintro rfl
         rcases hk.2 with h | h
         · subst h; omega
         · omega
       · rcases d3 b h with h | h
         · exact h
         · exfalso
           rcases h.2 with h | h
           · subst h; omega
           · omega
   · obtain ⟨cs, e1, _, _, _, e5, _⟩ := d4 x hT (Nat.lt_succ_self _)
     exact ⟨cs, e1, (e5 d2).2⟩
namespace Ly
def mtys (m : Pp.XMth) : List Pp.Ty := m.params ++ [m.ret]
def accF (c : Pp.XCls) (k : Nat) : List Pp.Ty := (c.fields.take k).map (·.ty)
def accM (c : Pp.XCls) (k : Nat) : List Pp.Ty := c.fields.map (·.ty) ++ (c.methods.take k).flatMap mtys
theorem accF_snoc {c : Pp.XCls} {k : Nat} {f : Pp.Fld} (h : c.fields[k]? = some f) : accF c (k + 1) = accF c k ++ [f.ty] := by
 unfold accF; rw [List.take_add_one, h, Option.toList_some, List.map_append]
 rfl
theorem accM_snoc {c : Pp.XCls} {k : Nat} {m : Pp.XMth} (h : c.methods[k]? = some m) : accM c (k + 1) = (accM c k ++ m.params) ++ [m.ret] := by
 unfold accM; rw [List.take_add_one, h, Option.toList_some, List.flatMap_append]; simp [mtys]
theorem accF_len {c : Pp.XCls} {k : Nat} (h : k <= c.fields.length) : (accF c k).length = k := by
 unfold accF; rw [List.length_map, List.length_take, Nat.min_eq_left h]
theorem accF_end {c : Pp.XCls} {k : Nat} (h : c.fields.length <= k) : accF c k = accM c 0 := by
 unfold accF accM; rw [List.take_of_length_le h]; simp
theorem accM_end {c : Pp.XCls} {k : Nat} (h : c.methods.length <= k) : accM c k = typesL c := by
 unfold accM typesL; rw [List.take_of_length_le h]
 rfl
theorem mtys_len {l : List Pp.XMth} (h : ∀ m ∈ l, m.params.length <= 100) : (l.flatMap mtys).length <= l.length * 101 := by
 induction l with
 | nil => simp
 | cons m l ih =>
   have h1 := h m (by simp)
   have h2 := ih fun x hx => h x (List.mem_cons_of_mem _ hx); rw [List.flatMap_cons, List.length_append, List.length_cons]; have h3 : (mtys m).length = m.params.length + 1 := by simp [mtys]
   omega
theorem accM_len {c : Pp.XCls} {k : Nat} (hf : c.fields.length <= 100) (hm : c.methods.length <= 100) (hp : ∀ m ∈ c.methods, m.params.length <= 100) : (accM c k).length <= 100000 := by
 have h1 := mtys_len (l := c.methods.take k) fun m h => hp m (List.mem_of_mem_take h); unfold accM; rw [List.length_append, List.length_map]; rw [List.length_take] at h1; omega
end Ly
theorem shp_ty : Ow.Shp TyX 2 := by rintro x ys ⟨rfl, _⟩; exact ⟨rfl, by intro u hu; simp [tyL] at hu; rcases hu with rfl | rfl <;> rfl⟩
theorem i_ty : (Tryz.prog.info? 36).map (fun i => (i.zero.map (fun z => z.cells.size), i.size, i.bytes)) = some (some 2, 2, 24) := by kernel_rfl
theorem typesOf_any (c : Pp.XCls) (cs : List Value) (w : World) (h : ClsX w c cs) (hf : c.fields.length <= 100) (hm : c.methods.length <= 100) (hp : ∀ m ∈ c.methods, m.params.length <= 100) :
 Calls Tryz.prog 112 #[.agg cs.toArray] w fun e w' => ∃ v, e = .returned v /\ Ow.OwnX w' w.heap.size 36 2 TyX v (Ly.typesL c) /\ Below w.heap.size w w' := by
 obtain ⟨vi, vf, vm, rfl, x1, x2, x3, _⟩ := h; have HRf := hide x2; have HRm := hide x3; obtain ⟨ia, ic, rfl, _⟩ := x1.len; obtain ⟨fa, fc, rfl, _⟩ := x2.len; obtain ⟨ma, mc, rfl, _⟩ := x3.len; clear x1 x2 x3; have HPm := hide hp; obtain ⟨nf, hnf⟩ : ∃ q, q = c.fields.length := ⟨_, rfl⟩; obtain ⟨nm, hnm⟩ : ∃ q, q = c.methods.length := ⟨_, rfl⟩; have HNf := hide hnf; have HNm := hide hnm; rw [<- hnf] at HRf hf; rw [<- hnm] at HRm hm; simp only [clsXL]; rw [<- hnf, <- hnm]; clear hnf hnm hp; obtain ⟨NB, hNB⟩ : ∃ q : ByteArray, q = ⟨c.name.toArray⟩ := ⟨_, rfl⟩; rw [<- hNB]; clear hNB; generalize (⟨c.super.toArray⟩ : ByteArray) = SB; generalize c.iface = fi; generalize c.ifaces.length = ni; obtain ⟨j0, hj, hj0, hj1, hj2⟩ := Ow.info_of' i_ty; have HB0 := hide ((Below.refl w.heap.size w).alloc (Nat.le_refl _) (.cells #[.string NB, .bool fi, .string SB, .slice ia ni ic, .slice fa nf fc, .slice ma nm mc] 33)); have HX0 := hide (heap_alloc_new w (.cells #[.string NB, .bool fi, .string SB, .slice ia ni ic, .slice fa nf fc, .slice ma nm mc] 33)); go_enter Tryz.func112, Tryz.ntmps112; go_wp2_with fail; generalize w.alloc (.cells #[.string NB, .bool fi, .string SB, .slice ia ni ic, .slice fa nf fc, .slice ma nm mc] 33) = wa at *
 have hf1 : (nf : Int) <= 100 := by omega
 have hm1 : (nm : Int) <= 100 := by omega
 go_loopw [3, 11] (fun l i wr => ∃ (k : Nat) (la : Option Addr) (lc : Nat) (ln : Nat), k <= nf /\ i = .int .i64 k /\ l = .slice la ln lc /\ ln = k /\ Hid (Below wa.heap.size wa wr) /\ Hid (Ow.OwnX wr wa.heap.size 36 2 TyX (.slice la ln lc) (Ly.accF c k))) (fun _ i _ => nf - (intOf i).toNat)
 case atStart => exact ⟨0, none, 0, 0, Nat.zero_le _, rfl, rfl, rfl, hide (Below.refl _ _), hide (Ow.OwnX.nil _ _ _ _ _)⟩
 case round =>
  obtain ⟨k, la, lc, ln, hk, rfl, rfl, rfl, HB, HO⟩ := hrel; have HBw := hide (HB0.out.trans (HB.out.mono HB0.out.size)); by_cases hlt : ln < nf
  · obtain ⟨x, hx⟩ : ∃ x, c.fields[ln]? = some x := ⟨c.fields[ln]'(by rw [<- HNf.out]; exact hlt), List.getElem?_eq_getElem _⟩
    obtain ⟨g, o, rfl, ys, wf, hc⟩ := Ow.row_at' HRf.out hx; have hG := hide (hc wr HBw.out); have HTk := hide (Ly.accF_snoc hx); clear hc hx; obtain ⟨rfl, hl1, hl2⟩ := wf; have HTl := hide hl2; clear hl1 hl2; have r0 := hG.out 0 _ rfl; have r1 := hG.out 1 _ rfl; have r2 := hG.out 2 _ rfl; have r3 := hG.out 3 _ rfl; rw [Nat.add_zero] at r0; clear hG; have hlt' : (ln : Int) < (nf : Int) := by omega
    have hA : Below wr.heap.size wr (wr.alloc (.cells #[.string ⟨x.name.toArray⟩, .int .i64 x.ty.kind, .string ⟨x.ty.name.toArray⟩, .bool x.stat] 43)) := (Below.refl _ _).alloc (Nat.le_refl _) _; have hA2 : Below wr.heap.size wr ((wr.alloc (.cells #[.string ⟨x.name.toArray⟩, .int .i64 x.ty.kind, .string ⟨x.ty.name.toArray⟩, .bool x.stat] 43)).alloc (.cells #[.int .i64 x.ty.kind, .string ⟨x.ty.name.toArray⟩] 36)) := Ow.bel_alloc2 _ _ _; have hbx := heap_alloc_new wr (.cells #[.string ⟨x.name.toArray⟩, .int .i64 x.ty.kind, .string ⟨x.ty.name.toArray⟩, .bool x.stat] 43); have b0 := cell_box hbx 0; have b1 := cell_box hbx 1; have b2 := cell_box hbx 2; have b3 := cell_box hbx 3; have HO2 := hide (HO.out.on hA2 fun _ _ h => h); have HR2 : Hid (RowX ((wr.alloc (.cells #[.string ⟨x.name.toArray⟩, .int .i64 x.ty.kind, .string ⟨x.ty.name.toArray⟩, .bool x.stat] 43)).alloc (.cells #[.int .i64 x.ty.kind, .string ⟨x.ty.name.toArray⟩] 36)) 2 TyX (.slice (some ⟨(wr.alloc (.cells #[.string ⟨x.name.toArray⟩, .int .i64 x.ty.kind, .string ⟨x.ty.name.toArray⟩, .bool x.stat] 43)).heap.size, 0, none⟩) 1 1) [x.ty]) := hide (Ow.row_one' (P := TyX) (x := x.ty) (ys := [.int .i64 x.ty.kind, .string ⟨x.ty.name.toArray⟩]) ⟨rfl, HTl.out⟩); have HB2 := hide (HB.out.trans (hA2.mono HB.out.size)); have hlm := Ly.accF_len (c := c) (k := ln) (by rw [<- HNf.out]; omega)
    have hll : (Ly.accF c ln).length <= 100 := by omega
    clear hA hA2 hbx hlm
    go_wp2_with (at_builtin; refine Ow.wpList_app rfl (.tmp 15) (.tmp 18) 44 rfl Tryz.underlying44 hj hj0 hj1 hj2 (by decide) shp_ty (by first | rfl | simp [Act.eval, Act.put]) HO2.out (by first | rfl | simp [Act.eval, Act.put]) HR2.out (by simp; omega) (by decide) HB2.out.size ?_)
    intro v5 w5 ho5 hg5; have HB5 := hide (HB2.out.trans (Ow.bel_grown HO2.out HB2.out.size hg5)); rw [<- HTk.out] at ho5; have HO5 := hide ho5; clear ho5 hg5 HO2 HR2 HB2; have hn5 := Ly.accF_len (c := c) (k := ln + 1) (by rw [<- HNf.out]; omega)
    obtain ⟨xa, xc, hv5⟩ := HO5.out.shape; rw [hn5] at hv5; subst hv5; clear hn5; go_wp2_with fail
    go_roundw
    case rel => exact ⟨ln + 1, xa, xc, ln + 1, by omega, by go_num, rfl, rfl, HB5, HO5⟩
    case measure => simp [intOf]; omega
  · have hln : ln = nf := by omega
    subst hln; have hnl : ¬ ((ln : Int) < (ln : Int)) := by omega
    have HO1 : Hid (Ow.OwnX wr wa.heap.size 36 2 TyX (.slice la ln lc) (Ly.accM c 0)) := hide (by
     rw [<- Ly.accF_end (c := c) (k := ln) (by rw [<- HNf.out]; exact Nat.le_refl _)]
     exact HO.out)
    have hX1 := (HB.out.block _ (Ow.lt_of_blk HX0.out)).trans HX0.out; have c5 := cell_box hX1 5; clear hX1 HO; go_wp2_with fail
    go_loopw [3, 24] (fun l i wr => ∃ (k : Nat) (la : Option Addr) (lc : Nat) (n2 : Nat), k <= nm /\ i = .int .i64 k /\ l = .slice la n2 lc /\ n2 = (Ly.accM c k).length /\ Hid (Below wa.heap.size wa wr) /\ Hid (Ow.OwnX wr wa.heap.size 36 2 TyX (.slice la n2 lc) (Ly.accM c k))) (fun _ i _ => nm - (intOf i).toNat)
    case atStart =>
     obtain ⟨_, _, hsh⟩ := HO1.out.shape; injection hsh with _ h2 _; exact ⟨0, la, lc, ln, Nat.zero_le _, rfl, rfl, h2, HB, HO1⟩
    case round =>
     obtain ⟨k, la, lc, n2, hk, rfl, rfl, hn2, HB, HO⟩ := hrel; have hn3 := Ly.accM_len (c := c) (k := k) (by rw [<- HNf.out]; omega) (by rw [<- HNm.out]; omega) HPm.out
     have HN2 := hide hn2; rw [<- hn2] at hn3; clear hn2 HO1; have HBw := hide (HB0.out.trans (HB.out.mono HB0.out.size)); by_cases hlt : k < nm
     · obtain ⟨m, hx⟩ : ∃ x, c.methods[k]? = some x := ⟨c.methods[k]'(by rw [<- HNm.out]; exact hlt), List.getElem?_eq_getElem _⟩
       obtain ⟨g, o, rfl, ys, wf, hc⟩ := Ow.row_at' HRm.out hx; have hG := hide (hc wr HBw.out); have HTk := hide (Ly.accM_snoc hx); have hmp := HPm.out m (List.mem_of_getElem? hx); clear hc hx; obtain ⟨vp, vc, vk, rfl, z1, z2, z3, _, hrl, _⟩ := wf; have HRl := hide hrl; have HZ1 := hide z1; obtain ⟨ap, cp, rfl, _⟩ := z1.len; obtain ⟨ac, cc, rfl, _⟩ := z2.len; obtain ⟨ak, ck, rfl, _⟩ := z3.len; clear z1 z2 z3 hrl; have r0 := hG.out 0 _ rfl; have r1 := hG.out 1 _ rfl; have r2 := hG.out 2 _ rfl; have r3 := hG.out 3 _ rfl; have r4 := hG.out 4 _ rfl; have r5 := hG.out 5 _ rfl; have r6 := hG.out 6 _ rfl; have r7 := hG.out 7 _ rfl; have r8 := hG.out 8 _ rfl; rw [Nat.add_zero] at r0; clear hG; have hlt' : (k : Int) < (nm : Int) := by omega
       have hA : Below wr.heap.size wr (wr.alloc (.cells #[.string ⟨m.name.toArray⟩, .bool m.stat, .bool m.abst, .slice ap m.params.length cp, .int .i64 m.ret.kind, .string ⟨m.ret.name.toArray⟩, .int .i64 m.locals, .slice ac m.code.length cc, .slice ak m.catches.length ck] 48)) := (Below.refl _ _).alloc (Nat.le_refl _) _; have HBA := hide (HB.out.trans (hA.mono HB.out.size)); have HOA := hide (HO.out.on hA fun _ _ h => h); have HZA := hide ((HZ1.out.on HBw.out fun _ _ h => h).on hA fun _ _ h => h); have hbx := heap_alloc_new wr (.cells #[.string ⟨m.name.toArray⟩, .bool m.stat, .bool m.abst, .slice ap m.params.length cp, .int .i64 m.ret.kind, .string ⟨m.ret.name.toArray⟩, .int .i64 m.locals, .slice ac m.code.length cc, .slice ak m.catches.length ck] 48); have HBx := hide hbx; have hbz : wr.heap.size < (wr.alloc (.cells #[.string ⟨m.name.toArray⟩, .bool m.stat, .bool m.abst, .slice ap m.params.length cp, .int .i64 m.ret.kind, .string ⟨m.ret.name.toArray⟩, .int .i64 m.locals, .slice ac m.code.length cc, .slice ak m.catches.length ck] 48)).heap.size := Ow.lt_of_blk hbx; clear hA hbx HO HZ1; go_wp2_with fail; generalize wr.alloc (.cells #[.string ⟨m.name.toArray⟩, .bool m.stat, .bool m.abst, .slice ap m.params.length cp, .int .i64 m.ret.kind, .string ⟨m.ret.name.toArray⟩, .int .i64 m.locals, .slice ac m.code.length cc, .slice ak m.catches.length ck] 48) = wB at *
       have hD : Below wB.heap.size wB wB.drew := Below.drew (Below.refl _ _); have hDa : Below wB.heap.size wB (wB.drew.alloc (.cells #[.int .i64 m.ret.kind, .string ⟨m.ret.name.toArray⟩] 36)) := hD.alloc (Nat.le_refl _) _; have b3 := cell_box HBx.out 3; have b4 := cell_box HBx.out 4; have b5 := cell_box HBx.out 5; have hax := (hDa.block _ hbz).trans HBx.out; have a3 := cell_box hax 3; have a4 := cell_box hax 4; have a5 := cell_box hax 5; have HAl : Hid ((wB.drew.alloc (.cells #[.int .i64 m.ret.kind, .string ⟨m.ret.name.toArray⟩] 36)).heap[wB.heap.size]? = some (.cells #[.int .i64 m.ret.kind, .string ⟨m.ret.name.toArray⟩] 36 (0, 0))) := hide (heap_alloc_new wB.drew _); have HOd := hide (fun wx (hb : Below wB.heap.size wB wx) => HOA.out.on hb fun _ _ h => h); have HZd := hide (fun wx (hb : Below wB.heap.size wB wx) => HZA.out.on hb fun _ _ h => h); have hD1 := hide hD; have hDa1 := hide hDa; have HRt : Hid (TyX m.ret [.int .i64 m.ret.kind, .string ⟨m.ret.name.toArray⟩]) := hide ⟨rfl, HRl.out⟩; have hle : (Ly.accM c k).length + m.params.length <= 1000000 := by rw [<- HN2.out]; omega
       have hle2 : (Ly.accM c k ++ m.params).length + [m.ret].length <= 1000000 := by rw [List.length_append, <- HN2.out]; simp; omega
       have hbase : wa.heap.size <= wB.heap.size := HBA.out.size; clear r0 r1 r2 r3 r4 r5 r6 r7 r8 hax hD hDa
       go_region_law (first
        | (refine Ow.step_app rfl (.tmp 28) (.tmp 30) 44 rfl Tryz.underlying44 hj hj0 hj1 hj2 (by decide) shp_ty (by first | rfl | simp [Act.eval, Act.put]) (HOd.out _ (by first | exact hD1.out | exact hDa1.out)) (by first | rfl | simp [Act.eval, Act.put]) (HZd.out _ (by first | exact hD1.out | exact hDa1.out)) hle (by decide) (Nat.le_trans hbase (by first | exact hD1.out.size | exact hDa1.out.size)) ?_
           intro v5 w5 ho5 hg5; have HK5 := (Ow.kx_grown (HOd.out _ (by first | exact hD1.out | exact hDa1.out)) hg5)
           have hb5 := HK5.blk wr.heap.size _ _ _ (by first | exact ((hD1.out.block _ hbz).trans HBx.out) | exact ((hDa1.out.block _ hbz).trans HBx.out)) (by decide)
           have q4 := cell_box hb5 4; have q5 := cell_box hb5 5; have HB5 : Hid (Below wa.heap.size wa w5) := hide ((HBA.out.trans ((by first | exact hD1.out | exact hDa1.out : Below wB.heap.size wB _).mono hbase)).trans (Ow.bel_grown (HOd.out _ (by first | exact hD1.out | exact hDa1.out)) (Nat.le_trans hbase (by first | exact hD1.out.size | exact hDa1.out.size)) hg5))
           try have HR5 : Hid (RowX w5 2 TyX (.slice (some ⟨wB.heap.size, 0, none⟩) 1 1) [m.ret]) := hide (Hr.row_one ((hg5.block wB.heap.size (Ow.lt_of_blk HAl.out) (fun e => absurd (own_lt HOA.out e.symm).1 (Nat.lt_irrefl _))).trans HAl.out) HRt.out)
           have HO5 := hide ho5; obtain ⟨xa, xc, hv5⟩ := ho5.shape; obtain ⟨n5, hn5⟩ : ∃ q, q = (Ly.accM c k ++ m.params).length := ⟨_, rfl⟩; rw [<- hn5] at hv5; clear HK5 hb5 ho5 hg5 hn5
           subst hv5)
        | (refine Ow.step_app rfl (.tmp 31) (.tmp 34) 44 rfl Tryz.underlying44 hj hj0 hj1 hj2 (by decide) shp_ty (by first | rfl | simp [Act.eval, Act.put]) (by first | exact HO5.out | exact HO5.out.on ((Below.refl _ _).alloc (Nat.le_refl _) _) fun _ _ h => h) (by first | rfl | simp [Act.eval, Act.put]) (by first | exact HR5.out | exact Ow.row_one' (P := TyX) (x := m.ret) HRt.out) hle2 (by decide) (by first | exact HB5.out.size | exact (HB5.out.alloc HB5.out.size _).size) ?_
           intro v7 w7 ho7 hg7; have HB7 : Hid (Below wa.heap.size wa w7) := hide (by first | exact HB5.out.trans (Ow.bel_grown HO5.out HB5.out.size hg7) | exact (HB5.out.alloc HB5.out.size _).trans (Ow.bel_grown (HO5.out.on ((Below.refl _ _).alloc (Nat.le_refl _) _) fun _ _ h => h) (HB5.out.alloc HB5.out.size _).size hg7))
           rw [<- HTk.out] at ho7; have HO7 := hide ho7; obtain ⟨ya, yc, hv7⟩ := ho7.shape; obtain ⟨n7, hn7⟩ : ∃ q, q = (Ly.accM c (k + 1)).length := ⟨_, rfl⟩; rw [<- hn7] at hv7; have HN7 := hide hn7; clear ho7 hg7 hn7
           subst hv7)
        | fail)
       all_goals go_wp2_with fail
       all_goals go_roundw
       all_goals first
        | exact ⟨k + 1, ya, yc, n7, by omega, by go_num, rfl, HN7.out, HB7, HO7⟩
        | (simp [intOf]; omega)
     · have hkn : k = nm := by omega
       subst hkn; have hnl : ¬ ((k : Int) < (k : Int)) := by omega
       go_wp2_with fail; go_ret; refine ⟨_, rfl, ?_, HBw.out⟩; have := HO.out.low HB0.out.size fun _ _ h => h
       rwa [Ly.accM_end (by rw [<- HNm.out]; exact Nat.le_refl _)] at this
theorem cls_open {w : World} {c : Pp.XCls} {ys : List Value} (h : ClsX w c ys) : ∃ ia ic fa fc ma mc, ys = [.string ⟨c.name.toArray⟩, .bool c.iface, .string ⟨c.super.toArray⟩, .slice ia c.ifaces.length ic, .slice fa c.fields.length fc, .slice ma c.methods.length mc] /\
 RowX w 1 StrX (.slice ia c.ifaces.length ic) c.ifaces /\ RowX w 4 FldX (.slice fa c.fields.length fc) c.fields /\ RowX w 9 (MthX w) (.slice ma c.methods.length mc) c.methods := by
 obtain ⟨vi, vf, vm, rfl, x1, x2, x3, _⟩ := h; obtain ⟨ia, ic, rfl, _⟩ := x1.len; obtain ⟨fa, fc, rfl, _⟩ := x2.len; obtain ⟨ma, mc, rfl, _⟩ := x3.len; exact ⟨ia, ic, fa, fc, ma, mc, rfl, x1, x2, x3⟩
theorem ltwice_any (c : Pp.XCls) (cs : List Value) (w : World) (h : ClsX w c cs) (hf : c.fields.length <= 100) (hm : c.methods.length <= 100) :
 Calls Tryz.prog 93 #[.agg cs.toArray] w fun e w' => Hr.Yes (Ly.twiceP c) e /\ Below w.heap.size w w' := by
 obtain ⟨ia, ic, fa, fc, ma, mc, rfl, x1, x2, x3⟩ := cls_open h; have HF := hide (fun wx (hb : Below w.heap.size w wx) => repF_any c.fields _ wx (x2.on hb fun _ _ h => h) (by omega))
 have HM := hide (fun wx (hb : Below w.heap.size w wx) => repM_any w c.methods _ wx (x3.on hb fun _ _ h => h) (by omega))
 obtain ⟨F, hF⟩ : ∃ F : Prop, F = ((c.fields.map (·.name)).Nodup) := ⟨_, rfl⟩; obtain ⟨M, hM⟩ : ∃ F : Prop, F = ((c.methods.map (·.name)).Nodup) := ⟨_, rfl⟩; have HT : Hid (Ly.twiceP c ↔ ¬ (F /\ M)) := hide (by rw [hF, hM]; exact Iff.rfl)
 rw [<- hF] at HF; rw [<- hM] at HM; clear x1 x2 x3 h hF hM hf hm; generalize (⟨c.name.toArray⟩ : ByteArray) = NB at *
 generalize (⟨c.super.toArray⟩ : ByteArray) = SB at *
 generalize c.iface = fi at *
 generalize c.ifaces.length = ni at *
 generalize c.fields.length = nf at *
 generalize c.methods.length = nm at *
 have HB0 := hide ((Below.refl w.heap.size w).alloc (Nat.le_refl _) (.cells #[.string NB, .bool fi, .string SB, .slice ia ni ic, .slice fa nf fc, .slice ma nm mc] 33)); have HX0 := hide (heap_alloc_new w (.cells #[.string NB, .bool fi, .string SB, .slice ia ni ic, .slice fa nf fc, .slice ma nm mc] 33)); go_enter Tryz.func93, Tryz.ntmps93; go_wp2_with fail; generalize w.alloc (.cells #[.string NB, .bool fi, .string SB, .slice ia ni ic, .slice fa nf fc, .slice ma nm mc] 33) = wa at *
 refine (HF.out wa HB0.out).mono ?_; rintro e w1 ⟨⟨b, rfl, hb⟩, hb1⟩; have HB1 := hide (HB0.out.trans (hb1.mono HB0.out.size)); have hX1 := (hb1.block _ (Ow.lt_of_blk HX0.out)).trans HX0.out; have c5 := cell_box hX1 5; have HQ := hide hb; clear hb hb1 hX1 HX0 HF; cases b with
 | true =>
   have HP : Hid (Ly.twiceP c) := hide (HT.out.2 fun h => HQ.out.1 rfl h.1); clear HQ HT; go_wp2_with fail; go_ret; exact ⟨.yes HP.out, HB1.out⟩
 | false =>
   have HFt : Hid F := hide (Classical.byContradiction fun h => by have := HQ.out.2 h; cases this)
   clear HQ; go_wp2_with fail; refine (HM.out w1 HB1.out).mono ?_; rintro e w2 ⟨⟨b, rfl, hb⟩, hb2⟩; have HB2 := hide (HB1.out.trans (hb2.mono HB1.out.size)); have HP : Hid (b = true ↔ Ly.twiceP c) := hide (hb.trans ⟨fun h => HT.out.2 fun h2 => h h2.2, fun h h2 => HT.out.1 h ⟨HFt.out, h2⟩⟩); clear hb hb2 HM HT; go_wp2_with fail; go_ret; exact ⟨⟨_, rfl, HP.out⟩, HB2.out⟩
end Go.Proofs.YtbbbnciejmdpfabGreatDoor

/- What the laws of this seat lean on: 7 texts. -/
import Derived.Test.YtjlappamkfjlkabGreatDoorPkAm
import Derived.Deep.RegionLaw
import Derived.Test.YtjlappamkfjlkabGreatDoorPkAi
import Derived.Test.YtjlappamkfjlkabGreatDoorPkAd
set_option maxRecDepth 100000
set_option maxHeartbeats 64000000
set_option linter.unusedVariables false
set_option linter.unusedSimpArgs false
namespace Go.Proofs.YtjlappamkfjlkabGreatDoor
open Go.RowKit
namespace Ow
def setCells (w : World) (g : Nat) : Nat -> List Value -> World
 | _, [] => w
 | off, u :: zs => setCells (w.setCell ⟨g, off, none⟩ u) g (off + 1) zs
def setLL : List Value -> Nat -> List Value -> List Value
 | ys, _, [] => ys
 | ys, off, u :: zs => setLL (ys.set off u) (off + 1) zs
theorem setLL_over : ∀ (zs p a b : List Value), a.length = zs.length -> setLL (p ++ (a ++ b)) p.length zs = p ++ (zs ++ b)
 | [], p, a, b, h => by have : a = [] := List.length_eq_zero_iff.1 h; subst this; rfl
 | u :: zs, p, a, b, h => by
   cases a with
   | nil => cases h
   | cons x a =>
     have h' : a.length = zs.length := by simpa using h
     show setLL ((p ++ (x :: a ++ b)).set p.length u) (p.length + 1) zs = _; have e : (p ++ (x :: a ++ b)).set p.length u = (p ++ [u]) ++ (a ++ b) := by simp
     rw [e]; have := setLL_over zs (p ++ [u]) a b h'; rw [List.length_append, List.length_singleton] at this; rw [this]; simp
theorem setLL_skip : ∀ (zs a b : List Value) (k : Nat), setLL (a ++ b) (a.length + k) zs = a ++ setLL b k zs
 | [], a, b, k => rfl
 | u :: zs, a, b, k => by
   show setLL ((a ++ b).set (a.length + k) u) (a.length + k + 1) zs = a ++ setLL (b.set k u) (k + 1) zs; rw [List.set_append_right _ _ (Nat.le_add_right _ _), Nat.add_sub_cancel_left]; exact setLL_skip zs a (b.set k u) (k + 1)
theorem len_setLL : ∀ (zs ys : List Value) (k : Nat), (setLL ys k zs).length = ys.length
 | [], ys, k => rfl
 | u :: zs, ys, k => by show (setLL (ys.set k u) (k + 1) zs).length = _; rw [len_setLL zs]; simp
theorem take_setLL : ∀ (zs ys : List Value) (k n : Nat), (setLL ys k zs).take n = setLL (ys.take n) k zs
 | [], ys, k, n => rfl
 | u :: zs, ys, k, n => by
   show (setLL (ys.set k u) (k + 1) zs).take n = setLL ((ys.take n).set k u) (k + 1) zs; rw [take_setLL zs, List.take_set]
theorem Flat.put {α : Type} {P : α -> List Value -> Prop} {sz : Nat} (hs : Shp P sz) {x : α} {zs : List Value} (hp : P x zs) : ∀ {l : List α} {ys : List Value} (i : Nat), Flat P l ys -> i < l.length -> Flat P (l.set i x) (setLL ys (i * sz) zs)
 | [], _, i, _, h => absurd h (Nat.not_lt_zero _)
 | y :: l, _, 0, ⟨a, b, e, hx, hl⟩, _ => by
   subst e; have h1 := setLL_over zs [] a b (by rw [(hs _ _ hx).1, (hs _ _ hp).1])
   rw [Nat.zero_mul]; rw [List.nil_append, List.nil_append] at h1; show Flat P (x :: l) (setLL (a ++ b) 0 zs); have h2 : setLL (a ++ b) 0 zs = zs ++ b := h1; rw [h2]; exact ⟨zs, b, rfl, hp, hl⟩
 | y :: l, _, i + 1, ⟨a, b, e, hx, hl⟩, h => by
   subst e; have ha := (hs _ _ hx).1; rw [show (i + 1) * sz = a.length + i * sz from by rw [ha, Nat.succ_mul, Nat.add_comm], setLL_skip]
   exact ⟨a, _, rfl, hx, Flat.put hs hp i hl (by simpa using h)⟩
theorem blk_setCells : ∀ (zs : List Value) {w : World} {g : Nat} {c : Array Value} {t : TypeId} {f : Nat × Nat} (off : Nat), w.heap[g]? = some (.cells c t f) -> ∃ c', (setCells w g off zs).heap[g]? = some (.cells c' t f) /\ c'.size = c.size /\ c'.toList = setLL c.toList off zs
 | [], w, g, c, t, f, off, h => ⟨c, h, rfl, rfl⟩
 | u :: zs, w, g, c, t, f, off, h => by
   obtain ⟨c', h1, h2, h3⟩ := blk_setCells zs (off + 1) (blk_put h off u); exact ⟨c', h1, by rw [h2]; simp, by rw [h3, Array.toList_setIfInBounds]; rfl⟩
theorem kx_setCells : ∀ (zs : List Value) {w : World} {g : Nat} {t : TypeId} (off : Nat), Ty w g t -> Kx t w (setCells w g off zs)
 | [], w, g, t, off, h => Kx.refl _ _
 | u :: zs, w, g, t, off, h => (Kx.set h off u).trans (kx_setCells zs (off + 1) (h.set g off u))
theorem bel_setCells : ∀ (zs : List Value) (w : World) {g b : Nat} (off : Nat), b <= g -> Below b w (setCells w g off zs)
 | [], w, g, b, off, h => Below.refl _ _
 | u :: zs, w, g, b, off, h => ((Below.refl b w).setCell h u).trans (bel_setCells zs _ (off + 1) h)
section
variable {α β : Type} {P : α -> List Value -> Prop} {Q : β -> List Value -> Prop} {sz base e : Nat} {w : World} {v : Value} {l : List α}
theorem OwnX.put {g n c : Nat} (h : OwnX w base e sz P (.slice (some ⟨g, 0, none⟩) n c) l) (hs : Shp P sz) {i : Nat} {x : α} {zs : List Value} (hi : i < l.length) (hp : P x zs) : OwnX (setCells w g (i * sz) zs) base e sz P (.slice (some ⟨g, 0, none⟩) n c) (l.set i x) := by
 obtain ⟨news, hf, h1, h2⟩ := h
 rcases h2 with ⟨e0, _⟩ | ⟨g', cap, cur, e0, hb, hg, hnc, hm, hcs, htk⟩
 · cases e0
 · cases e0
   obtain ⟨c', k1, k2, k3⟩ := blk_setCells zs (i * sz) hg; refine ⟨setLL news (i * sz) zs, hf.put hs hp i hi, by rw [len_setLL, h1, List.length_set], .inr ⟨g, c, c', by rw [List.length_set], hb, k1, by rw [List.length_set]; exact hnc, hm, by rw [k2, hcs], ?_⟩⟩
   rw [k3, take_setLL, List.length_set, htk]
theorem OwnX.map (h : OwnX w base e sz P v l) (f : α -> β) (hq : ∀ x ys, P x ys -> Q (f x) ys) : OwnX w base e sz Q v (l.map f) := by
 obtain ⟨news, hf, h⟩ := h
 have key : ∀ {l : List α} {ys : List Value}, Flat P l ys -> Flat Q (l.map f) ys := by
  intro l
  induction l with
  | nil => intro ys h; exact h
  | cons x l ih => rintro ys ⟨a, b, e, hx, hl⟩; exact ⟨a, b, e, hq x a hx, ih hl⟩
 exact ⟨news, key hf, by rw [List.length_map]; exact h⟩
theorem OwnX.cells (h : OwnX w base e sz P v l) (hs : Shp P sz) (h0 : 0 < l.length) : ∃ g c cur, v = .slice (some ⟨g, 0, none⟩) l.length c /\ base <= g /\ w.heap[g]? = some (.cells cur e (0, 0)) /\ ∀ (k : Nat) (x : α), l[k]? = some x -> ∃ ys, P x ys /\ ∀ (j : Nat) (u : Value), ys[j]? = some u -> w.cell? ⟨g, k * sz + j, none⟩ = some u := by
 have hr := h.row hs fun _ _ h => h; obtain ⟨news, hf, h1, h2⟩ := h
 rcases h2 with ⟨rfl, h2⟩ | ⟨g, cap, cur, rfl, hb, hg, hnc, hm, hcs, htk⟩
 · omega
 · refine ⟨g, cap, cur, rfl, hb, hg, fun k x hx => ?_⟩
   obtain ⟨b', o', e', ys, h3, h4⟩ := row_at hr hx; cases e'; refine ⟨ys, h3, fun j u hj => ?_⟩; have := h4 w (Below.refl _ _) j u hj
   rwa [Nat.zero_add] at this
end
def MthB (w wp : World) (base : Nat) (x : Bool × Pp.XMth) (ys : List Value) : Prop := if x.1 = true then MthO w base x.2 ys else MthX wp x.2 ys
theorem MthB.on {w w' wp : World} {base : Nat} {x : Bool × Pp.XMth} {ys : List Value} (h : MthB w wp base x ys) (hb : Below w.heap.size w w') : MthB w' wp base x ys := by
 unfold MthB at h ⊢
 split at h
 · rename_i hx; rw [if_pos hx]; exact h.on hb (Nat.le_refl _)
 · rename_i hx; rw [if_neg hx]; exact h
theorem MthB.kx {t : TypeId} {w w' wp : World} {base : Nat} {x : Bool × Pp.XMth} {ys : List Value} (h : MthB w wp base x ys) (hk : Kx t w w') (h1 : 23 ≠ t) (h2 : 45 ≠ t) (h3 : 113 ≠ t) : MthB w' wp base x ys := by
 unfold MthB at h ⊢
 split at h
 · rename_i hx; rw [if_pos hx]; exact h.kx hk h1 h2 h3
 · rename_i hx; rw [if_neg hx]; exact h
theorem shp_mthb {w wp : World} {base : Nat} : Shp (MthB w wp base) 9 := by
 intro x ys h; unfold MthB at h
 split at h
 · exact shp_mth _ _ h
 · exact shp_mthx wp _ _ h
def flags (ms : List Pp.XMth) (k : Nat) : List (Bool × Pp.XMth) := (ms.take k).map (fun m => (true, m)) ++ (ms.drop k).map (fun m => (false, m))
theorem flags_len (ms : List Pp.XMth) (k : Nat) : (flags ms k).length = ms.length := by
 unfold flags; rw [List.length_append, List.length_map, List.length_map, List.length_take, List.length_drop]; omega
theorem flags_at {ms : List Pp.XMth} {k : Nat} {m : Pp.XMth} (h : ms[k]? = some m) : (flags ms k)[k]? = some (false, m) := by
 have hk := (List.getElem?_eq_some_iff.1 h).1; unfold flags; rw [List.getElem?_append_right (by simp; omega)]
 simp only [List.length_map, List.length_take, List.getElem?_map, List.getElem?_drop]; rw [show k + (k - min k ms.length) = k from by omega, h]
 rfl
theorem flags_step {ms : List Pp.XMth} {k : Nat} {m : Pp.XMth} (h : ms[k]? = some m) : (flags ms k).set k (true, m) = flags ms (k + 1) := by
 have hk := (List.getElem?_eq_some_iff.1 h).1; unfold flags; rw [List.set_append_right _ _ (by simp; omega)]
 rw [List.take_add_one, h]; rw [List.drop_eq_getElem_cons hk]; simp only [List.length_map, List.length_take, List.map_append, List.map_cons]; rw [show k - min k ms.length = 0 from by omega]
 simp
theorem flags_end {ms : List Pp.XMth} {k : Nat} (h : ms.length <= k) : (flags ms k).map Prod.snd = ms /\ ∀ x ∈ flags ms k, x.1 = true := by
 unfold flags; rw [List.take_of_length_le h, List.drop_of_length_le h]; refine ⟨by simp [Function.comp_def], ?_⟩
 intro x hx; simp at hx; obtain ⟨m, _, rfl⟩ := hx
 rfl
theorem OwnX.done {w wp : World} {base e : Nat} {v : Value} {ms : List Pp.XMth} {k : Nat} (h : OwnX w base e 9 (MthB w wp base) v (flags ms k)) (hk : ms.length <= k) : OwnX w base e 9 (MthO w base) v ms := by
 obtain ⟨h1, h2⟩ := flags_end hk; obtain ⟨news, hf, h⟩ := h
 have key : ∀ {l : List (Bool × Pp.XMth)} {ys : List Value}, (∀ x ∈ l, x.1 = true) -> Flat (MthB w wp base) l ys -> Flat (MthO w base) (l.map Prod.snd) ys := by
  intro l
  induction l with
  | nil => intro ys _ h; exact h
  | cons x l ih =>
    rintro ys hx ⟨a, b, e, hp, hl⟩; refine ⟨a, b, e, ?_, ih (fun y hy => hx y (by simp [hy])) hl⟩
    unfold MthB at hp; rw [if_pos (hx x (by simp))] at hp
    exact hp
 have h3 := key h2 hf; rw [h1] at h3; refine ⟨news, h3, ?_⟩; rw [flags_len] at h; exact h
end Ow
theorem copyClass_any (m : Pp.XCls) (ys : List Value) (w : World) (h : ClsX w m ys) (hl : Pp.LtC m) :
 Calls Tryz.prog 26 #[.agg ys.toArray] w fun e w' => ∃ ys', e = .returned (.agg ys'.toArray) /\ Ow.ClsO w' w.heap.size m ys' /\ Below w.heap.size w w' := by
 obtain ⟨vp, vc, vk, rfl, p1, i1, k1, z1⟩ := h; have HZ := hide z1; have HL := hide hl.1; have HLm := hide hl.2.2.2; have HA := hide (fun w' (hb : Below w.heap.size w w') => cpy_str m.ifaces vp w' (p1.on hb fun _ _ h => h) (by have := hl.1.2.2.1; omega))
 have HF := hide (fun w' (hb : Below w.heap.size w w') => cpy_fld m.fields vc w' (i1.on hb fun _ _ h => h) (by have := hl.1.1; omega))
 have HM := hide (fun w' (hb : Below w.heap.size w w') => cpy_mth w m.methods vk w' (k1.on hb fun _ _ h => h) (by have := hl.1.2.1; omega))
 obtain ⟨pa, pc, rfl, _⟩ := p1.len; obtain ⟨ia, ic, rfl, _⟩ := i1.len; obtain ⟨ka, kc, rfl, _⟩ := k1.len; clear p1 i1 k1 z1 hl; simp only [clsXL]; go_enter Tryz.func26, Tryz.ntmps26; go_wp2_with fail; have hx0 := Ow.blk_alloc2a w (.cells #[.string ⟨m.name.toArray⟩, .bool m.iface, .string ⟨m.super.toArray⟩, .slice pa m.ifaces.length pc, .slice ia m.fields.length ic, .slice ka m.methods.length kc] 36) (.cells #[.string ⟨#[]⟩, .bool false, .string ⟨#[]⟩, .slice none 0 0, .slice none 0 0, .slice none 0 0] 36); have hx1 := Ow.blk_alloc2b w (.cells #[.string ⟨m.name.toArray⟩, .bool m.iface, .string ⟨m.super.toArray⟩, .slice pa m.ifaces.length pc, .slice ia m.fields.length ic, .slice ka m.methods.length kc] 36) (.cells #[.string ⟨#[]⟩, .bool false, .string ⟨#[]⟩, .slice none 0 0, .slice none 0 0, .slice none 0 0] 36); have HB0 := hide (Ow.bel_alloc2 w (.cells #[.string ⟨m.name.toArray⟩, .bool m.iface, .string ⟨m.super.toArray⟩, .slice pa m.ifaces.length pc, .slice ia m.fields.length ic, .slice ka m.methods.length kc] 36) (.cells #[.string ⟨#[]⟩, .bool false, .string ⟨#[]⟩, .slice none 0 0, .slice none 0 0, .slice none 0 0] 36)); generalize (w.alloc (.cells #[.string ⟨m.name.toArray⟩, .bool m.iface, .string ⟨m.super.toArray⟩, .slice pa m.ifaces.length pc, .slice ia m.fields.length ic, .slice ka m.methods.length kc] 36)).alloc (.cells #[.string ⟨#[]⟩, .bool false, .string ⟨#[]⟩, .slice none 0 0, .slice none 0 0, .slice none 0 0] 36) = w0 at *
 have HC : Hid (∀ wx, Below w0.heap.size w0 wx -> wx.heap[w.heap.size]? = some (.cells #[.string ⟨m.name.toArray⟩, .bool m.iface, .string ⟨m.super.toArray⟩, .slice pa m.ifaces.length pc, .slice ia m.fields.length ic, .slice ka m.methods.length kc] 36 (0, 0)) /\ wx.heap[w.heap.size + 1]? = some (.cells #[.string ⟨#[]⟩, .bool false, .string ⟨#[]⟩, .slice none 0 0, .slice none 0 0, .slice none 0 0] 36 (0, 0))) := hide fun wx hb => ⟨(hb.block w.heap.size (Ow.lt_of_blk hx0)).trans hx0, (hb.block (w.heap.size + 1) (Ow.lt_of_blk hx1)).trans hx1⟩; have HD : Hid (Below w0.heap.size w0 w0.drew) := hide (Below.drew (Below.refl _ _)); have hs1 : w.heap.size + 1 < w0.heap.size := Ow.lt_of_blk hx1; clear hx0 hx1; have c3 : w0.cell? ⟨w.heap.size, 3, none⟩ = some (.slice pa m.ifaces.length pc) := cell_box (HC.out w0 (Below.refl _ _)).1 3; have c4 : w0.cell? ⟨w.heap.size, 4, none⟩ = some (.slice ia m.fields.length ic) := cell_box (HC.out w0 (Below.refl _ _)).1 4; have c5 : w0.cell? ⟨w.heap.size, 5, none⟩ = some (.slice ka m.methods.length kc) := cell_box (HC.out w0 (Below.refl _ _)).1 5; rename_i K hK
 have hcut : ∀ (t0 t3 t4 t5 t6 t7 t8 t9 t10 t11 t12 t13 t14 t15 t16 t17 t18 t19 t20 t21 t22 t23 t24 t25 t26 t27 t28 t29 t30 t31 t32 t33 t34 t35 t36 t37 t38 t39 t40 t41 t42 t43 : Value) (wx : World), (∃ a5 n5 a6 n6 a7 n7, Hid (Below w.heap.size w wx) /\ Hid (wx.heap[w.heap.size]? = some (.cells #[.string ⟨m.name.toArray⟩, .bool m.iface, .string ⟨m.super.toArray⟩, .slice a5 m.ifaces.length n5, .slice a6 m.fields.length n6, .slice a7 m.methods.length n7] 36 (0, 0))) /\ Hid (wx.heap[w.heap.size + 1]? = some (.cells #[.string ⟨#[]⟩, .bool false, .string ⟨#[]⟩, .slice none 0 0, .slice none 0 0, .slice none 0 0] 36 (0, 0))) /\ Hid (Ow.OwnX wx w.heap.size 9 1 StrX (.slice a5 m.ifaces.length n5) m.ifaces) /\ Hid (Ow.OwnX wx w.heap.size 88 4 FldX (.slice a6 m.fields.length n6) m.fields) /\ Hid (Ow.OwnX wx w.heap.size 29 9 (MthX w) (.slice a7 m.methods.length n7) m.methods)) -> K { tmps := #[t0, .pointer (some ⟨w.heap.size, 0, none⟩), .pointer (some ⟨w.heap.size + 1, 0, none⟩), t3, t4, t5, t6, t7, t8, t9, t10, t11, t12, t13, t14, t15, t16, t17, t18, t19, t20, t21, t22, t23, t24, t25, t26, t27, t28, t29, t30, t31, t32, t33, t34, t35, t36, t37, t38, t39, t40, t41, t42, t43], defers := [] } wx := by
  intro t0 t3 t4 t5 t6 t7 t8 t9 t10 t11 t12 t13 t14 t15 t16 t17 t18 t19 t20 t21 t22 t23 t24 t25 t26 t27 t28 t29 t30 t31 t32 t33 t34 t35 t36 t37 t38 t39 t40 t41 t42 t43 wx hrel; refine hK _ _ ?_; clear hK HA HF HM HB0; obtain ⟨a5, n5, a6, n6, a7, n7, HBx, HCx, HZx, HOa, HOf, HOm⟩ := hrel; have hl14 : m.methods.length <= 14 := HL.out.2.1
  have HOb : Hid (Ow.OwnX wx w.heap.size 29 9 (Ow.MthB wx w w.heap.size) (.slice a7 m.methods.length n7) (Ow.flags m.methods 0)) := hide (by
   have h1 := HOm.out.map (Q := Ow.MthB wx w w.heap.size) (fun m => (false, m)) (fun x ys h => by unfold Ow.MthB; exact h)
   unfold Ow.flags
   simpa using h1)
  clear HOm; have q5 := cell_box HCx.out 5; go_wp2_with fail; clear q5
  go_loopw [20] (fun i wr => ∃ k : Nat, k <= m.methods.length /\ i = .int .i64 k /\ Hid (Below w.heap.size w wr) /\ Hid (wr.heap[w.heap.size]? = some (.cells #[.string ⟨m.name.toArray⟩, .bool m.iface, .string ⟨m.super.toArray⟩, .slice a5 m.ifaces.length n5, .slice a6 m.fields.length n6, .slice a7 m.methods.length n7] 36 (0, 0))) /\ Hid (wr.heap[w.heap.size + 1]? = some (.cells #[.string ⟨#[]⟩, .bool false, .string ⟨#[]⟩, .slice none 0 0, .slice none 0 0, .slice none 0 0] 36 (0, 0))) /\ Hid (Ow.OwnX wr w.heap.size 9 1 StrX (.slice a5 m.ifaces.length n5) m.ifaces) /\ Hid (Ow.OwnX wr w.heap.size 88 4 FldX (.slice a6 m.fields.length n6) m.fields) /\ Hid (Ow.OwnX wr w.heap.size 29 9 (Ow.MthB wr w w.heap.size) (.slice a7 m.methods.length n7) (Ow.flags m.methods k))) (fun i _ => m.methods.length - (intOf i).toNat)
  case atStart => exact ⟨0, Nat.zero_le _, rfl, HBx, HCx, HZx, HOa, HOf, HOb⟩
  case round =>
   obtain ⟨k, hk, rfl, HBr, HCr, HZr, HAr, HFr, HMr⟩ := hrel; clear HBx HCx HZx HOa HOf HOb; have hli : (m.methods.length : Int) <= 14 := by omega
   by_cases hlt : k < m.methods.length
   · obtain ⟨x, hx⟩ : ∃ x, m.methods[k]? = some x := ⟨m.methods[k], List.getElem?_eq_getElem hlt⟩
     have HLx := hide (HLm.out x (List.mem_of_getElem? hx)); obtain ⟨g, c, cur, e7, hgb, hg, hcl⟩ := HMr.out.cells Ow.shp_mthb (by rw [Ow.flags_len]; omega)
     have ea : a7 = some ⟨g, 0, none⟩ := by injection e7
     clear e7; subst ea; obtain ⟨ys1, hP1, hc1⟩ := hcl k _ (Ow.flags_at hx); have hX1 : MthX w x ys1 := by unfold Ow.MthB at hP1; simpa using hP1
     have HX1 := hide hX1; have HGB := hide hgb; have HG := hide hg; have HC1 := hide hc1; have HFS := hide (Ow.flags_step hx); obtain ⟨vp1, vc1, vk1, rfl, x1, x2, x3, x4⟩ := hX1; have HZ1 := hide x4; have HT := hide (fun w' (hb : Below w.heap.size w w') => cpy_ty x.params vp1 w' (x1.on hb fun _ _ h => h) (by have := HLx.out.1.2.1; omega))
     have HI := hide (fun w' (hb : Below w.heap.size w w') => cpy_ins x.code vc1 w' (x2.on hb fun _ _ h => h) (by have := HLx.out.1.2.2.1; omega))
     have HK := hide (fun w' (hb : Below w.heap.size w w') => cpy_ctc x.catches vk1 w' (x3.on hb fun _ _ h => h) (by have := HLx.out.1.2.2.2.1; omega))
     obtain ⟨xa, xc, rfl, _⟩ := x1.len; obtain ⟨ya, yc, rfl, _⟩ := x2.len; obtain ⟨za, zc, rfl, _⟩ := x3.len; have r0 := HC1.out 0 _ rfl; have r1 := HC1.out 1 _ rfl; have r2 := HC1.out 2 _ rfl; have r3 := HC1.out 3 _ rfl; have r4 := HC1.out 4 _ rfl; have r5 := HC1.out 5 _ rfl; have r6 := HC1.out 6 _ rfl; have r7 := HC1.out 7 _ rfl; have r8 := HC1.out 8 _ rfl; rw [Nat.add_zero] at r0; have hlt' : (k : Int) < (m.methods.length : Int) := by omega
     have HRs := hide (And.intro r0 (And.intro r1 (And.intro r2 (And.intro r3 (And.intro r4 (And.intro r5 (And.intro r6 (And.intro r7 r8)))))))); have hx2 := hide (heap_alloc_new wr (.cells #[.string ⟨x.name.toArray⟩, .bool x.stat, .bool x.abst, .slice xa x.params.length xc, .int .i64 x.ret.kind, .string ⟨x.ret.name.toArray⟩, .int .i64 x.locals, .slice ya x.code.length yc, .slice za x.catches.length zc] 29)); have HBA := hide ((Below.refl wr.heap.size wr).alloc (Nat.le_refl _) (.cells #[.string ⟨x.name.toArray⟩, .bool x.stat, .bool x.abst, .slice xa x.params.length xc, .int .i64 x.ret.kind, .string ⟨x.ret.name.toArray⟩, .int .i64 x.locals, .slice ya x.code.length yc, .slice za x.catches.length zc] 29)); clear hx hcl hP1 hc1 x1 x2 x3 x4 HX1 hg hgb; simp only [mthXL] at HC1; clear HC1; go_wp2_with fail; clear r0 r1 r2 r3 r4 r5 r6 r7 r8; generalize wr.alloc (.cells #[.string ⟨x.name.toArray⟩, .bool x.stat, .bool x.abst, .slice xa x.params.length xc, .int .i64 x.ret.kind, .string ⟨x.ret.name.toArray⟩, .int .i64 x.locals, .slice ya x.code.length yc, .slice za x.catches.length zc] 29) = wA at *
     have HCA : Hid (∀ wx, Below wA.heap.size wA wx -> wx.heap[wr.heap.size]? = some (.cells #[.string ⟨x.name.toArray⟩, .bool x.stat, .bool x.abst, .slice xa x.params.length xc, .int .i64 x.ret.kind, .string ⟨x.ret.name.toArray⟩, .int .i64 x.locals, .slice ya x.code.length yc, .slice za x.catches.length zc] 29 (0, 0))) := hide fun wx hb => (hb.block _ (Ow.lt_of_blk hx2.out)).trans hx2.out; clear hx2; have HDA : Hid (Below wA.heap.size wA wA.drew) := hide (Below.drew (Below.refl _ _)); rename_i K2 hK2
     have hcut2 : ∀ (s21 s22 s23 s24 s25 s26 s27 s28 s29 s30 s31 s32 s33 s34 s35 s36 s37 s38 s39 s40 s41 s42 : Value) (wy : World), (∃ b5 e5 b6 e6 b7 e7, Hid (Below wr.heap.size wr wy) /\ Hid (wy.heap[wr.heap.size]? = some (.cells #[.string ⟨x.name.toArray⟩, .bool x.stat, .bool x.abst, .slice b5 x.params.length e5, .int .i64 x.ret.kind, .string ⟨x.ret.name.toArray⟩, .int .i64 x.locals, .slice b6 x.code.length e6, .slice b7 x.catches.length e7] 29 (0, 0))) /\ Hid (Ow.OwnX wy wr.heap.size 23 2 TyX (.slice b5 x.params.length e5) x.params) /\ Hid (Ow.OwnX wy wr.heap.size 45 4 InsX (.slice b6 x.code.length e6) x.code) /\ Hid (Ow.OwnX wy wr.heap.size 113 4 CtcX (.slice b7 x.catches.length e7) x.catches)) -> K2 { tmps := #[t0, .pointer (some ⟨w.heap.size, 0, none⟩), .pointer (some ⟨w.heap.size + 1, 0, none⟩), .int .i64 k, .pointer (some ⟨wr.heap.size, 0, none⟩), t5, t6, t7, t8, t9, t10, t11, t12, t13, t14, t15, t16, .pointer (some ⟨w.heap.size, 5, none⟩), .slice (some ⟨g, 0, none⟩) m.methods.length n7, .int .i64 m.methods.length, .int .i64 k, s21, s22, s23, s24, s25, s26, s27, s28, s29, s30, s31, s32, s33, s34, s35, s36, s37, s38, s39, s40, s41, s42, t43], defers := [] } wy := by
      intro s21 s22 s23 s24 s25 s26 s27 s28 s29 s30 s31 s32 s33 s34 s35 s36 s37 s38 s39 s40 s41 s42 wy hrel; refine hK2 _ _ ?_; clear hK2 HT HI HK HCA HDA HBA; obtain ⟨b5, e5, b6, e6, b7, e7, HBy, HMy, HY1, HY2, HY3⟩ := hrel; have hgl := Ow.lt_of_blk HG.out; have hcl := Ow.lt_of_blk HCr.out; have HGy := hide ((HBy.out.block g hgl).trans HG.out); have HCy := hide ((HBy.out.block _ hcl).trans HCr.out); have HZy := hide ((HBy.out.block _ (Ow.lt_of_blk HZr.out)).trans HZr.out); have q5 := cell_box HCy.out 5; have m0 := cell_box HMy.out 0; have m1 := cell_box HMy.out 1; have m2 := cell_box HMy.out 2; have m3 := cell_box HMy.out 3; have m4 := cell_box HMy.out 4; have m5 := cell_box HMy.out 5; have m6 := cell_box HMy.out 6; have m7 := cell_box HMy.out 7; have m8 := cell_box HMy.out 8; have r0 := (HBy.out.cell (p := ⟨g, k * 9, none⟩) hgl).trans HRs.out.1; have r1 := (HBy.out.cell (p := ⟨g, k * 9 + 1, none⟩) hgl).trans HRs.out.2.1; have r2 := (HBy.out.cell (p := ⟨g, k * 9 + 2, none⟩) hgl).trans HRs.out.2.2.1; have r3 := (HBy.out.cell (p := ⟨g, k * 9 + 3, none⟩) hgl).trans HRs.out.2.2.2.1; have r4 := (HBy.out.cell (p := ⟨g, k * 9 + 4, none⟩) hgl).trans HRs.out.2.2.2.2.1; have r5 := (HBy.out.cell (p := ⟨g, k * 9 + 5, none⟩) hgl).trans HRs.out.2.2.2.2.2.1; have r6 := (HBy.out.cell (p := ⟨g, k * 9 + 6, none⟩) hgl).trans HRs.out.2.2.2.2.2.2.1; have r7 := (HBy.out.cell (p := ⟨g, k * 9 + 7, none⟩) hgl).trans HRs.out.2.2.2.2.2.2.2.1; have r8 := (HBy.out.cell (p := ⟨g, k * 9 + 8, none⟩) hgl).trans HRs.out.2.2.2.2.2.2.2.2; have f0 := Ow.fz_blk HGy.out (k * 9); have f1 := Ow.fz_blk HGy.out (k * 9 + 1); have f2 := Ow.fz_blk HGy.out (k * 9 + 2); have f3 := Ow.fz_blk HGy.out (k * 9 + 3); have f4 := Ow.fz_blk HGy.out (k * 9 + 4); have f5 := Ow.fz_blk HGy.out (k * 9 + 5); have f6 := Ow.fz_blk HGy.out (k * 9 + 6); have f7 := Ow.fz_blk HGy.out (k * 9 + 7); have f8 := Ow.fz_blk HGy.out (k * 9 + 8); have hne1 : g ≠ wr.heap.size := by omega
      have hp : Ow.MthB wy w w.heap.size (true, x) (mthXL x (.slice b5 x.params.length e5) (.slice b6 x.code.length e6) (.slice b7 x.catches.length e7)) := by
       unfold Ow.MthB; rw [if_pos rfl]; exact ⟨_, _, _, rfl, HY1.out.low HBr.out.size fun _ _ h => h, HY2.out.low HBr.out.size fun _ _ h => h, HY3.out.low HBr.out.size fun _ _ h => h, HZ1.out⟩
      have hPut := (HMr.out.on HBy.out fun _ _ h => h.on HBy.out).put Ow.shp_mthb (i := k) (by rw [Ow.flags_len]; omega) hp
      rw [HFS.out] at hPut; have hKx := Ow.kx_setCells (mthXL x (.slice b5 x.params.length e5) (.slice b6 x.code.length e6) (.slice b7 x.catches.length e7)) (k * 9) ⟨_, _, HGy.out⟩; have hBl := Ow.bel_setCells (mthXL x (.slice b5 x.params.length e5) (.slice b6 x.code.length e6) (.slice b7 x.catches.length e7)) wy (k * 9) HGB.out; have HZ' := hide (And.intro (hPut.low (Nat.le_refl _) fun _ _ h => h.kx hKx (by decide) (by decide) (by decide)) (And.intro hKx hBl))
      clear hPut hKx hBl hp; have HBz := hide ((HBr.out.trans (HBy.out.mono HBr.out.size)).trans HZ'.out.2.2); have HCz := hide (HZ'.out.2.1.blk _ _ _ _ HCy.out (by decide))
      have HZz := hide (HZ'.out.2.1.blk _ _ _ _ HZy.out (by decide))
      have HAz := hide ((HAr.out.on HBy.out fun _ _ h => h).kx HZ'.out.2.1 (by decide) fun _ _ h => h)
      have HFz := hide ((HFr.out.on HBy.out fun _ _ h => h).kx HZ'.out.2.1 (by decide) fun _ _ h => h)
      have HMz := hide HZ'.out.1; clear HZ' HMr HAr HFr HCr HZr HBr HFS; go_wp2_with fail
      go_roundw
      case rel => first | exact ⟨k + 1, by omega, by go_num, HBz, HCz, HZz, HAz, HFz, HMz⟩ | ((repeat apply Exists.intro); exact ⟨⟨k + 1, by omega, by go_num, HBz, HCz, HZz, HAz, HFz, HMz⟩, rfl⟩)
      case measure => simp [intOf]; omega
     have HCUT2 := hide hcut2; clear hcut2 hK2; have HBwA := hide (HBr.out.trans (HBA.out.mono HBr.out.size)); have c3 : wA.cell? ⟨wr.heap.size, 3, none⟩ = some (.slice xa x.params.length xc) := cell_box (HCA.out wA (Below.refl _ _)) 3; have c7 : wA.cell? ⟨wr.heap.size, 7, none⟩ = some (.slice ya x.code.length yc) := cell_box (HCA.out wA (Below.refl _ _)) 7; have c8 : wA.cell? ⟨wr.heap.size, 8, none⟩ = some (.slice za x.catches.length zc) := cell_box (HCA.out wA (Below.refl _ _)) 8; clear HRs HMr HAr HFr HCr HZr HFS HG HGB
     go_region_law (first
      | (go_simp
         refine (HT.out _ (HBwA.out.trans (HDA.out.mono HBwA.out.size))).mono ?_; rintro e w5 ⟨v5, rfl, ho5, hb5⟩; have HO5 := hide ho5; have HB5 := hide (HDA.out.trans (hb5.mono HDA.out.size)); obtain ⟨b5, e5, rfl⟩ := ho5.shape; have c57 : w5.cell? ⟨wr.heap.size, 7, none⟩ = some (.slice ya x.code.length yc) := cell_box (HCA.out w5 HB5.out) 7; have c58 : w5.cell? ⟨wr.heap.size, 8, none⟩ = some (.slice za x.catches.length zc) := cell_box (HCA.out w5 HB5.out) 8
         clear ho5 hb5)
      | (go_simp
         refine (HI.out _ (HBwA.out.trans (HB5.out.mono HBwA.out.size))).mono ?_; rintro e w6 ⟨v6, rfl, ho6, hb6⟩; have HO6 := hide ho6; have H6 := hide hb6; have HB6 := hide (HB5.out.trans (hb6.mono HB5.out.size)); obtain ⟨b6, e6, rfl⟩ := ho6.shape; have c68 : w6.cell? ⟨wr.heap.size, 8, none⟩ = some (.slice za x.catches.length zc) := cell_box (HCA.out w6 HB6.out) 8
         clear ho6 hb6)
      | (go_simp
         refine (HK.out _ (HBwA.out.trans (HB6.out.mono HBwA.out.size))).mono ?_; rintro e w7 ⟨v7, rfl, ho7, hb7⟩; have HO7 := hide ho7; have H7 := hide hb7; have HB7 := hide (HB6.out.trans (hb7.mono HB6.out.size)); obtain ⟨b7, e7, rfl⟩ := ho7.shape; have d3 : w7.cell? ⟨wr.heap.size, 3, none⟩ = some (.slice xa x.params.length xc) := cell_box (HCA.out w7 HB7.out) 3; have d7 : w7.cell? ⟨wr.heap.size, 7, none⟩ = some (.slice ya x.code.length yc) := cell_box (HCA.out w7 HB7.out) 7; have d8 : w7.cell? ⟨wr.heap.size, 8, none⟩ = some (.slice za x.catches.length zc) := cell_box (HCA.out w7 HB7.out) 8; have f3 := Ow.fz_blk (HCA.out w7 HB7.out) 3; have f7 := Ow.fz_blk (HCA.out w7 HB7.out) 7; have f8 := Ow.fz_blk (HCA.out w7 HB7.out) 8
         clear ho7 hb7))
     all_goals
      show K2 _ _; have hE0 := HCA.out w7 HB7.out; have hP1 := Ow.blk_put hE0 3 (.slice b5 x.params.length e5); have hP2 := Ow.blk_put hP1 7 (.slice b6 x.code.length e6); have hP3 := Ow.blk_put hP2 8 (.slice b7 x.catches.length e7); have hX := ((Ow.Kx.set ⟨_, _, hE0⟩ 3 (.slice b5 x.params.length e5)).trans (Ow.Kx.set ⟨_, _, hP1⟩ 7 (.slice b6 x.code.length e6))).trans (Ow.Kx.set ⟨_, _, hP2⟩ 8 (.slice b7 x.catches.length e7)); have hBz := ((HBA.out.trans (HB7.out.mono HBA.out.size)).trans (((Below.refl wr.heap.size w7).setCell (p := ⟨wr.heap.size, 3, none⟩) (Nat.le_refl _) (.slice b5 x.params.length e5)).setCell (p := ⟨wr.heap.size, 7, none⟩) (Nat.le_refl _) (.slice b6 x.code.length e6))).setCell (p := ⟨wr.heap.size, 8, none⟩) (Nat.le_refl _) (.slice b7 x.catches.length e7); refine HCUT2.out _ _ _ _ _ _ _ _ _ _ _ _ _ _ _ _ _ _ _ _ _ _ _ ⟨b5, e5, b6, e6, b7, e7, hide hBz, hide hP3, hide ?_, hide ?_, hide ?_⟩
      · exact (((HO5.out.on H6.out fun _ _ h => h).on H7.out fun _ _ h => h).kx hX (by decide) fun _ _ h => h).low (Nat.le_trans HBA.out.size HDA.out.size) fun _ _ h => h
      · exact ((HO6.out.on H7.out fun _ _ h => h).kx hX (by decide) fun _ _ h => h).low (Nat.le_trans HBA.out.size HB5.out.size) fun _ _ h => h
      · exact (HO7.out.kx hX (by decide) fun _ _ h => h).low (Nat.le_trans HBA.out.size HB6.out.size) fun _ _ h => h
   · have hnl : ¬ ((k : Int) < (m.methods.length : Int)) := by omega
     have HDn := hide (HMr.out.done (by omega))
     have q0 := cell_box HCr.out 0; have q1 := cell_box HCr.out 1; have q2 := cell_box HCr.out 2; have q3 := cell_box HCr.out 3; have q4 := cell_box HCr.out 4; have q5 := cell_box HCr.out 5; have z0 := cell_box HZr.out 0; have z1 := cell_box HZr.out 1; have z2 := cell_box HZr.out 2; have z3 := cell_box HZr.out 3; have z4 := cell_box HZr.out 4; have z5 := cell_box HZr.out 5; have f0 := Ow.fz_blk HZr.out 0; have f1 := Ow.fz_blk HZr.out 1; have f2 := Ow.fz_blk HZr.out 2; have f3 := Ow.fz_blk HZr.out 3; have f4 := Ow.fz_blk HZr.out 4; have f5 := Ow.fz_blk HZr.out 5; have hKx := Ow.kx_setCells (clsXL m (.slice a5 m.ifaces.length n5) (.slice a6 m.fields.length n6) (.slice a7 m.methods.length n7)) 0 ⟨_, _, HZr.out⟩; have hBl := Ow.bel_setCells (clsXL m (.slice a5 m.ifaces.length n5) (.slice a6 m.fields.length n6) (.slice a7 m.methods.length n7)) wr (g := w.heap.size + 1) (b := w.heap.size) 0 (Nat.le_succ _); have HKx := hide (And.intro hKx hBl); clear hKx hBl HMr; go_wp2_with fail; refine bodyPost_ret (v := .agg (clsXL m (.slice a5 m.ifaces.length n5) (.slice a6 m.fields.length n6) (.slice a7 m.methods.length n7)).toArray) (by simp [results, Tryz.results26, go_sem, clsXL, *]) rfl ?_
     refine ⟨_, rfl, ⟨_, _, _, rfl, ?_, ?_, ?_, HZ.out⟩, HBr.out.trans HKx.out.2⟩
     · exact HAr.out.kx HKx.out.1 (by decide) fun _ _ h => h
     · exact HFr.out.kx HKx.out.1 (by decide) fun _ _ h => h
     · exact HDn.out.kx HKx.out.1 (by decide) fun _ _ h => h.kx HKx.out.1 (by decide) (by decide) (by decide)
 have HCUT := hide hcut; clear hcut hK
 go_region_law (first
  | (go_simp
     refine (HA.out _ (HB0.out.trans (HD.out.mono HB0.out.size))).mono ?_; rintro e w5 ⟨v5, rfl, ho5, hb5⟩; have HO5 := hide ho5; have HB5 := hide (HD.out.trans (hb5.mono HD.out.size)); obtain ⟨a5, n5, rfl⟩ := ho5.shape; have c54 : w5.cell? ⟨w.heap.size, 4, none⟩ = some (.slice ia m.fields.length ic) := cell_box (HC.out w5 HB5.out).1 4; have c55 : w5.cell? ⟨w.heap.size, 5, none⟩ = some (.slice ka m.methods.length kc) := cell_box (HC.out w5 HB5.out).1 5
     clear ho5 hb5)
  | (go_simp
     refine (HF.out _ (HB0.out.trans (HB5.out.mono HB0.out.size))).mono ?_; rintro e w6 ⟨v6, rfl, ho6, hb6⟩; have HO6 := hide ho6; have H6 := hide hb6; have HB6 := hide (HB5.out.trans (hb6.mono HB5.out.size)); obtain ⟨a6, n6, rfl⟩ := ho6.shape; have c65 : w6.cell? ⟨w.heap.size, 5, none⟩ = some (.slice ka m.methods.length kc) := cell_box (HC.out w6 HB6.out).1 5
     clear ho6 hb6)
  | (go_simp
     refine (HM.out _ (HB0.out.trans (HB6.out.mono HB0.out.size))).mono ?_; rintro e w7 ⟨v7, rfl, ho7, hb7⟩; have HO7 := hide ho7; have H7 := hide hb7; have HB7 := hide (HB6.out.trans (hb7.mono HB6.out.size)); obtain ⟨a7, n7, rfl⟩ := ho7.shape; have d3 : w7.cell? ⟨w.heap.size, 3, none⟩ = some (.slice pa m.ifaces.length pc) := cell_box (HC.out w7 HB7.out).1 3; have d4 : w7.cell? ⟨w.heap.size, 4, none⟩ = some (.slice ia m.fields.length ic) := cell_box (HC.out w7 HB7.out).1 4; have d5 : w7.cell? ⟨w.heap.size, 5, none⟩ = some (.slice ka m.methods.length kc) := cell_box (HC.out w7 HB7.out).1 5; have f3 := Ow.fz_blk (HC.out w7 HB7.out).1 3; have f4 := Ow.fz_blk (HC.out w7 HB7.out).1 4; have f5 := Ow.fz_blk (HC.out w7 HB7.out).1 5
     clear ho7 hb7))
 all_goals
  show K _ _; have hE0 := (HC.out w7 HB7.out).1; have hP1 := Ow.blk_put hE0 3 (.slice a5 m.ifaces.length n5); have hP2 := Ow.blk_put hP1 4 (.slice a6 m.fields.length n6); have hP3 := Ow.blk_put hP2 5 (.slice a7 m.methods.length n7); have hX := ((Ow.Kx.set ⟨_, _, hE0⟩ 3 (.slice a5 m.ifaces.length n5)).trans (Ow.Kx.set ⟨_, _, hP1⟩ 4 (.slice a6 m.fields.length n6))).trans (Ow.Kx.set ⟨_, _, hP2⟩ 5 (.slice a7 m.methods.length n7)); have hBz := ((HB0.out.trans (HB7.out.mono HB0.out.size)).trans (((Below.refl w.heap.size w7).setCell (p := ⟨w.heap.size, 3, none⟩) (Nat.le_refl _) (.slice a5 m.ifaces.length n5)).setCell (p := ⟨w.heap.size, 4, none⟩) (Nat.le_refl _) (.slice a6 m.fields.length n6))).setCell (p := ⟨w.heap.size, 5, none⟩) (Nat.le_refl _) (.slice a7 m.methods.length n7); refine HCUT.out _ _ _ _ _ _ _ _ _ _ _ _ _ _ _ _ _ _ _ _ _ _ _ _ _ _ _ _ _ _ _ _ _ _ _ _ _ _ _ _ _ _ _ ⟨a5, n5, a6, n6, a7, n7, hide hBz, hide hP3, hide ?_, hide ?_, hide ?_, hide ?_⟩
  · rw [Below.heap_setCell _ _ _ _ (by simp), Below.heap_setCell _ _ _ _ (by simp), Below.heap_setCell _ _ _ _ (by simp)]
    exact (HC.out w7 HB7.out).2
  · exact (((HO5.out.on H6.out fun _ _ h => h).on H7.out fun _ _ h => h).kx hX (by decide) fun _ _ h => h).low (Nat.le_trans HB0.out.size HD.out.size) fun _ _ h => h
  · exact ((HO6.out.on H7.out fun _ _ h => h).kx hX (by decide) fun _ _ h => h).low (Nat.le_trans HB0.out.size HB5.out.size) fun _ _ h => h
  · exact (HO7.out.kx hX (by decide) fun _ _ h => h).low (Nat.le_trans HB0.out.size HB6.out.size) fun _ _ h => h
theorem All_any (cs : List Pp.XCls) (v : Value) (w : World) (h : ProgX w v cs) (hl : Pp.Light cs) :
 Calls Tryz.prog 17 #[.agg #[v]] w fun e w' => ∃ v', e = .returned v' /\ Ow.OwnX w' w.heap.size 36 6 (Ow.ClsO w' w.heap.size) v' (Hr.allL cs) /\ Below w.heap.size w w' := by
 have HR := hide h.1; have HLc := hide hl.2; have hn := hl.1; obtain ⟨pa, pc, rfl, _⟩ := h.1.len; obtain ⟨n, hn'⟩ : ∃ n, n = cs.length := ⟨_, rfl⟩; have HN := hide hn'; rw [<- hn'] at HR hn ⊢; clear h hl hn'; obtain ⟨j0, hj, hj0, hj1, hj2⟩ := Ow.info_of Ow.i_cls; have hx0 := hide (heap_alloc_new w (.cells #[.slice pa n pc] 39)); have HB0 := hide ((Below.refl w.heap.size w).alloc (Nat.le_refl _) (.cells #[.slice pa n pc] 39)); go_enter Tryz.func17, Tryz.ntmps17; go_wp2_with fail; generalize w.alloc (.cells #[.slice pa n pc] 39) = w0 at *
 refine (standing_any w0).mono ?_; rintro e w1 ⟨v1, rfl, ho1, hb1⟩; have c0 := cell_box ((hb1.block _ (Ow.lt_of_blk hx0.out)).trans hx0.out) 0; have HB1 := hide (HB0.out.trans (hb1.mono HB0.out.size))
 have HO1 : Hid (Ow.OwnX w1 w.heap.size 36 6 (Ow.ClsO w1 w.heap.size) v1 (Hr.base ++ cs.take 0)) := hide (by
  rw [List.take_zero, List.append_nil]
  exact ho1.low HB0.out.size fun _ _ h => h.o _ _)
 clear ho1 hb1 hx0 HB0; go_wp2_with fail; clear c0
 go_loopw [3, 10] (fun lv i wr => ∃ (k : Nat) (acc : List Pp.XCls), k <= n /\ i = .int .i64 k /\ Hid (Below w.heap.size w wr) /\ Hid (Ow.OwnX wr w.heap.size 36 6 (Ow.ClsO wr w.heap.size) lv acc) /\ Hid (acc = Hr.base ++ cs.take k)) (fun lv i _ => n - (intOf i).toNat)
 case atStart => exact ⟨0, _, Nat.zero_le _, rfl, HB1, HO1, hide rfl⟩
 case round =>
  obtain ⟨k, acc, hk, rfl, HBr, HO, HAc⟩ := hrel; clear HB1 HO1; obtain ⟨la, lc, rfl⟩ := HO.out.shape; by_cases hlt : k < n
  · obtain ⟨x, hx⟩ : ∃ x, cs[k]? = some x := ⟨cs[k]'(by rw [<- HN.out]; exact hlt), List.getElem?_eq_getElem _⟩
    obtain ⟨g1, o1, eg1, ys1, w1', hc1⟩ := Hr.row_at HR.out hx; subst eg1; have HCx := hide (hc1 wr HBr.out); have HM := hide (fun wy (hb : Below wr.heap.size wr wy) => copyClass_any x ys1 wy (w1'.on (HBr.out.trans (hb.mono HBr.out.size))) (HLc.out x (List.mem_of_getElem? hx))); have HTk : Hid (acc ++ [x] = Hr.base ++ cs.take (k + 1)) := hide (by rw [HAc.out, List.take_add_one, hx, List.append_assoc]; rfl)
    have HLn : Hid (acc.length <= 22) := hide (by rw [HAc.out, List.length_append, List.length_take]; show 8 + _ <= 22; omega)
    obtain ⟨va1, vd1, va2, vd2, va3, vd3, rfl⟩ := Hr.at_c w1'; have r0 := HCx.out 0 _ rfl; have r1 := HCx.out 1 _ rfl; have r2 := HCx.out 2 _ rfl; have r3 := HCx.out 3 _ rfl; have r4 := HCx.out 4 _ rfl; have r5 := HCx.out 5 _ rfl; rw [Nat.add_zero] at r0; have hlt' : (k : Int) < (n : Int) := by omega
    have hn1 : (n : Int) <= 14 := by omega
    have HAl := hide ((Below.refl wr.heap.size wr).alloc (Nat.le_refl _) (.cells #[.string ⟨x.name.toArray⟩, .bool x.iface, .string ⟨x.super.toArray⟩, .slice va1 x.ifaces.length vd1, .slice va2 x.fields.length vd2, .slice va3 x.methods.length vd3] 36)); clear hc1 HCx hx w1' HAc; go_wp2_with fail; refine (HM.out _ HAl.out).mono ?_; rintro e w9 ⟨ys', rfl, ho9, hb9⟩; obtain ⟨wp, wc, wk, rfl, q1, q2, q3, q4⟩ := ho9; have hMO : Ow.ClsO w9 w.heap.size x (clsXL x wp wc wk) := Ow.ClsO.on ⟨wp, wc, wk, rfl, q1, q2, q3, q4⟩ (Below.refl _ _) (Nat.le_trans HBr.out.size HAl.out.size); have hB9 := HAl.out.trans (hb9.mono HAl.out.size); have hA : Below wr.heap.size wr (w9.alloc (.cells (clsXL x wp wc wk).toArray 36)) := hB9.trans (((Below.refl _ _).alloc (Nat.le_refl _) _).mono hB9.size); have HR1 : Hid (RowX (w9.alloc (.cells (clsXL x wp wc wk).toArray 36)) 6 (Ow.ClsO (w9.alloc (.cells (clsXL x wp wc wk).toArray 36)) w.heap.size) (.slice (some ⟨w9.heap.size, 0, none⟩) 1 1) [x]) := hide (Hr.row_one (heap_alloc_new w9 _) (hMO.on ((Below.refl _ _).alloc (Nat.le_refl _) _) (Nat.le_refl _))); have HO1 : Hid (Ow.OwnX (w9.alloc (.cells (clsXL x wp wc wk).toArray 36)) w.heap.size 36 6 (Ow.ClsO (w9.alloc (.cells (clsXL x wp wc wk).toArray 36)) w.heap.size) (.slice la acc.length lc) acc) := hide (HO.out.on hA fun _ _ h => h.on hA (Nat.le_refl _)); have HA := hide (HBr.out.trans (hA.mono HBr.out.size)); obtain ⟨ua1, ud1, rfl⟩ := q1.shape; obtain ⟨ua2, ud2, rfl⟩ := q2.shape; obtain ⟨ua3, ud3, rfl⟩ := q3.shape; clear hMO q1 q2 q3 q4 hb9 hB9 hA HM r0 r1 r2 r3 r4 r5; simp only [clsXL] at HR1 HO1 HA ⊢
    go_wp2_with (at_builtin; refine Ow.wpList_app rfl (.tmp 14) (.tmp 17) 37 rfl Tryz.underlying37 hj hj0 hj1 hj2 (by decide) Ow.shp_cls rfl HO1.out rfl HR1.out ?c1 (by decide) HA.out.size ?_)
    case c1 => have := HLn.out; simp; omega
    · intro v' w10 hown hgrow
      have hkx := Ow.kx_grown HO1.out hgrow; have HB10 := hide (HA.out.trans (Ow.bel_grown HO1.out HA.out.size hgrow)); have HO10 : Hid (Ow.OwnX w10 w.heap.size 36 6 (Ow.ClsO w10 w.heap.size) v' (acc ++ [x])) := hide (hown.low (Nat.le_refl _) fun _ _ h => h.kx hkx (by decide) (by decide) (by decide) (by decide) (by decide) (by decide))
      clear hown hgrow hkx HO1 HR1 HA; go_wp2_with fail
      go_roundw
      case rel => first | exact ⟨k + 1, acc ++ [x], by omega, by go_num, HB10, HO10, HTk⟩ | ((repeat apply Exists.intro); exact ⟨⟨k + 1, acc ++ [x], by omega, by go_num, HB10, HO10, HTk⟩, rfl⟩)
      case measure => simp [intOf]; omega
  · have HE : Hid (acc = Hr.allL cs) := hide (by rw [HAc.out, List.take_of_length_le (by rw [<- HN.out]; omega)]; rfl)
    have hnl : ¬ ((k : Int) < (n : Int)) := by omega
    go_wp2_with fail; go_ret; rw [<- HE.out]; exact ⟨_, rfl, HO.out, HBr.out⟩
namespace Ly
open Pp Hr
theorem mth_pars {m : XMth} (h : mthB m = true) : m.params.length <= 4 := by
 simp only [mthB, Bool.and_eq_true, eachB_iff] at h; exact h.2.1.1
theorem all_pars {cs : List XCls} (h : progB cs = true) {k : Nat} {c : XCls} (hc : (allL cs)[k]? = some c) : ∀ m ∈ c.methods, m.params.length <= 4 := by
 rcases List.mem_append.1 (List.mem_of_getElem? hc) with hm | hm
 · revert c
   have : ∀ c ∈ base, c.methods = [] := by decide
   intro c _ hm m hx; rw [this c hm] at hx; cases hx
 · intro m hx
   exact mth_pars ((cls_parts (prog_all h hm)).2.2.2.2.2.2 m hx)
theorem bs_range {bs : List Nat} {n : Nat} (h : bs.length = n) : (List.range n).map (bs.getD · 0) = bs := by
 apply List.ext_getElem?; intro i; rw [List.getElem?_map]; by_cases hi : i < n
 · rw [List.getElem?_range hi, getD_at (by omega)]
   rfl
 · rw [List.getElem?_eq_none (by simp; omega), List.getElem?_eq_none (by omega)]
   rfl
theorem ifs_map (l : List XCls) (bs : List Nat) (k : Nat) : (ifsP l k).map (bs.getD · 0) = ifsB l bs (clP l k).ifaces := by
 unfold ifsP ifsB; rw [List.map_filterMap]
 rfl
theorem netOk {cs : List XCls} {up : List (List Nat)} {bs : List Nat} (he : errL cs = 0) (hg : growL (allL cs) (allL cs) = some up) (hn : bs.Nodup) (hl : bs.length = (allL cs).length) : NetOk (bnet (allL cs) up bs) (allL cs) bs := by
 have hi := bnet_img (l := allL cs) up hn hl; have hG := pnet_good he hg; have hp := (err_zero he).1
 have hlen : (allL cs).length <= 18 := by
  have h1 := ((eachB_iff cs 10 clsB).1 hp).1; have h2 := all_len cs; have h3 : base.length = 8 := rfl; omega
 refine ⟨hi.good hG, hi.small hG (pnet_small he hg), fun b => Iff.rfl, by omega, fun n => ?_, fun b hb m hm => ?_⟩
 · have h1 := find_place hn hl n
   show (bs.find? fun b => nmF (allL cs) bs b == n).isSome = _; rw [h1]; unfold placeB; cases placeL (allL cs) n <;> rfl
 · obtain ⟨k, hk, rfl⟩ := (hi.T b).1 hb
   rw [hi.cl k hk] at hm; exact Nat.le_trans (all_pars hp (at_of hk) m hm) (by decide)
theorem check_bs {cs : List XCls} {up : List (List Nat)} {bs : List Nat} (he : errL cs = 0) (hg : growL (allL cs) (allL cs) = some up) (hn : bs.Nodup) (hl : bs.length = (allL cs).length) : checkF (bnet (allL cs) up bs) (allL cs) bs = layE cs := by
 have hi := bnet_img (l := allL cs) up hn hl; have h1 := hi.checkF (pnet_good he hg) (allL cs) (List.range (allL cs).length) (fun x hx => List.mem_range.1 hx); rw [bs_range hl] at h1; unfold layE; rw [if_pos he, hg]; exact h1
end Ly
theorem rdy_of {l : List Pp.XCls} {up : List (List Nat)} {bs : List Nat} {w w' : World} (hn : bs.Nodup) (hl : bs.length = l.length) (hlow : ∀ b ∈ bs, w.heap.size <= b) (hb : Below w.heap.size w w') (ht : Tabs1 w w' l bs l.length) : Rdy (Ly.bnet l up bs) w w' (fun _ => False) := by
 refine ⟨hb, ⟨fun _ => False, fun b hT => ?_⟩, fun k hk => ⟨hlow k hk, ?_⟩, fun _ h => h.elim⟩
 · have hT : b ∈ bs := hT
   obtain ⟨j, hj⟩ := List.getElem?_of_mem hT; have hlt := (List.getElem?_eq_some_iff.1 hj).1
   have hb0 : bs.getD j 0 = b := by
    have := Ly.getD_at hlt; rw [hj] at this; injection this with this; exact this.symm
   have hix : bs.idxOf b = j := by rw [<- hb0]; exact Ly.idx_get hn hlt
   have hc := Ly.at_of (l := l) (k := j) (by omega)
   obtain ⟨ia, ic, fa, fc, ma, mc, vs, h1, h2, h3⟩ := ht.tied j _ b (by omega) hc hj
   have hcl : (Ly.bnet l up bs).cl b = Ly.clP l j := by show Ly.clP l (bs.idxOf b) = _; rw [hix]
   have hsup : (Ly.bnet l up bs).sup b = Ly.placeB l bs (Ly.clP l j).super := by show (Ly.supP l (bs.idxOf b)).map _ = _; rw [hix]; rfl
   have hifs : (Ly.bnet l up bs).ifs b = Ly.ifsB l bs (Ly.clP l j).ifaces := by show (Ly.ifsP l (bs.idxOf b)).map _ = _; rw [hix]; exact Ly.ifs_map l bs j
   refine ⟨_, h1, ⟨rfl, ⟨[.string ⟨(Ly.clP l j).name.toArray⟩, .bool (Ly.clP l j).iface, .string ⟨(Ly.clP l j).super.toArray⟩, .slice ia (Ly.clP l j).ifaces.length ic, .slice fa (Ly.clP l j).fields.length fc, .slice ma (Ly.clP l j).methods.length mc], by rw [hcl]; exact h2, fun i u hu => ?_⟩, ?_, vs, rfl, ?_⟩, rfl, rfl, fun h => h.elim, fun _ => ⟨rfl, rfl, rfl, rfl⟩⟩
   · have hi6 := (List.getElem?_eq_some_iff.1 hu).1
     have hi6 : i < 6 := hi6; have h6 : i = 0 \/ i = 1 \/ i = 2 \/ i = 3 \/ i = 4 \/ i = 5 := by omega
     rcases h6 with rfl | rfl | rfl | rfl | rfl | rfl <;> exact hu
   · rw [hsup]; rfl
   · rw [hifs]
     exact h3.sub fun k _ hk => hk.elim id False.elim
 · obtain ⟨⟨cs, h1⟩, _⟩ := ht.all hl hn hk
   exact Ow.lt_of_blk h1
def TabsOk (cs : List Pp.XCls) (base : Nat) (w : World) (v : Value) : Prop := ∃ up bs w0, Hr.errL cs = 0 /\ Hr.growL (Hr.allL cs) (Hr.allL cs) = some up /\ bs.Nodup /\ bs.length = (Hr.allL cs).length /\ base <= w0.heap.size /\ Rdy (Ly.bnet (Hr.allL cs) up bs) w0 w (fun _ => False) /\ Stb (fun k => k ∈ bs) w 1 PtrX v bs
theorem tablesOf_any (cs : List Pp.XCls) (v : Value) (w : World) (ht : TabS w) (h : ProgX w v cs) (hl : Pp.Light cs) :
 Calls Tryz.prog 8 #[.agg #[v]] w fun e w' => ∃ v', e = .returned (.tuple #[v', .int .i64 (Ly.layE cs)]) /\ (Ly.layE cs = 0 -> TabsOk cs w.heap.size w' v') /\ (Ly.layE cs ≠ 0 -> v' = .slice none 0 0) /\ Below w.heap.size w w' := by
 have HC := hide (fun wx (hb : Below w.heap.size w wx) => hCheck_any cs v wx (ht.below hb) (h.on hb)); have HA := hide (fun wx (hb : Below w.heap.size w wx) => All_any cs v wx (h.on hb) hl); obtain ⟨pa, pc, rfl, _⟩ := h.1.len; clear h ht hl; generalize cs.length = n at *
 have hx0 := heap_alloc_new w (.cells #[.slice pa n pc] 39); have HX0 := hide hx0; have HB0 := hide ((Below.refl w.heap.size w).alloc (Nat.le_refl _) (.cells #[.slice pa n pc] 39)); have c0 := cell_box hx0 0; clear hx0; go_enter Tryz.func8, Tryz.ntmps8; go_wp2_with fail; generalize w.alloc (.cells #[.slice pa n pc] 39) = wa at *
 refine (HC.out wa HB0.out).mono ?_; rintro e w1 ⟨rfl, hb1⟩; have HB1 := hide (HB0.out.trans (hb1.mono HB0.out.size)); have hX1 := (hb1.block _ (Ow.lt_of_blk HX0.out)).trans HX0.out; clear HC hb1 HX0 c0; by_cases he : Hr.errL cs = 0
 · have HE := hide he
   obtain ⟨hp, ho, up, hg, _⟩ := Hr.err_zero he; have HG := hide hg; have HP := hide hp; have c0 := cell_box hX1 0; rw [he]; clear hX1 he hp ho hg; go_wp2_with fail; refine (HA.out w1 HB1.out).mono ?_; rintro e w2 ⟨va, rfl, ho2, hb2⟩; have HB2 := hide (HB1.out.trans (hb2.mono HB1.out.size)); have hrow : RowX w2 6 (ClsX w2) va (Hr.allL cs) := ho2.row Ow.shp_cls fun _ _ h => h.x
   have HBind := hide (bind_any (Hr.allL cs) va w2 hrow (by
    have h1 := ((Pp.eachB_iff cs 10 Pp.clsB).1 HP.out).1; have h2 := Hr.all_len cs; have h3 : Hr.base.length = 8 := rfl
    omega) fun c hc => by
     obtain ⟨k, hk⟩ := List.getElem?_of_mem hc; refine ⟨Nat.le_trans (Ly.all_facts HP.out hk).2.2.1 (by decide), fun y hy => ?_⟩
     have hkl := (List.getElem?_eq_some_iff.1 hk).1; obtain ⟨j, hj, _⟩ := Ly.ifs_all HG.out hkl (y := y) (by rw [Ly.clP_at hk]; exact hy)
     rw [hj]
     rfl)
   obtain ⟨xa, xc, rfl, _⟩ := hrow.len; clear HA hb2 ho2 hrow c0; go_wp2_with fail; refine HBind.out.mono ?_; rintro e w3 ⟨vb, rfl, bs, hnd, hlen, hlow, hb3, hst, htb⟩; have HB3 := hide (HB2.out.trans (hb3.mono HB2.out.size)); have HRd := hide (rdy_of (up := up) hnd hlen hlow hb3 htb); have HOk := hide (Ly.netOk HE.out HG.out hnd hlen); have HSt := hide hst; have HChk := hide (check_any _ (Hr.allL cs) bs HOk.out vb w2 w3 (fun _ => False) HRd.out (hst.sub fun k _ hk => hk.elim id False.elim)); rw [Ly.check_bs HE.out HG.out hnd hlen] at HChk; have HNd := hide hnd; have HLn := hide hlen; have HLow := hide hlow; have HS2 := hide HB2.out.size; obtain ⟨ba, bc, rfl, _⟩ := hst.row.len; clear HBind hb3 hst htb hnd hlen hlow; go_wp2_with fail; refine HChk.out.mono ?_; rintro e w4 ⟨rfl, hr4, hf4⟩; have HB4 := hide (below_fx HB3.out hf4 fun k hk => Nat.le_trans HS2.out (HLow.out k hk)); have HT4 : Hid (TabsOk cs w.heap.size w4 (.slice ba bs.length bc)) := hide ⟨up, bs, w2, HE.out, HG.out, HNd.out, HLn.out, HS2.out, hr4, HSt.out.on (hf4.mono fun k _ hk => hk) fun _ _ h => h⟩; clear HChk hr4 hf4; by_cases h0 : Ly.layE cs = 0
   · rw [h0]
     have H0 := hide h0; clear h0; go_wp2_with fail; refine bodyPost_ret (v := .tuple #[.slice ba bs.length bc, .int .i64 0]) (by simp [results, Tryz.results8, go_sem]) rfl ?_
     exact ⟨_, by rw [H0.out], fun _ => HT4.out, fun h => absurd H0.out h, HB4.out⟩
   · have h0' : (Ly.layE cs != 0) = true := by simpa using h0
     have H0 := hide h0; clear h0; go_wp2_with fail; refine bodyPost_ret (v := .tuple #[.slice none 0 0, .int .i64 (Ly.layE cs)]) (by simp [results, Tryz.results8, go_sem]) rfl ?_
     exact ⟨_, rfl, fun h => absurd h H0.out, fun _ => rfl, HB4.out⟩
 · have HL : Hid (Ly.layE cs = Hr.errL cs) := hide (by unfold Ly.layE; rw [if_neg he])
   have he' : (Hr.errL cs != 0) = true := by simpa using he
   have HE := hide he; clear he hX1; go_wp2_with fail; refine bodyPost_ret (v := .tuple #[.slice none 0 0, .int .i64 (Hr.errL cs)]) (by simp [results, Tryz.results8, go_sem]) rfl ?_
   rw [HL.out]; exact ⟨_, rfl, fun h => absurd h HE.out, fun _ => rfl, HB1.out⟩
theorem lCheck_any (cs : List Pp.XCls) (v : Value) (w : World) (ht : TabS w) (h : ProgX w v cs) (hl : Pp.Light cs) :
 Calls Tryz.prog 5 #[.agg #[v]] w fun e w' => e = .returned (.int .i64 (Ly.layE cs)) /\ Below w.heap.size w w' := by
 have HC := hide (fun wx (hb : Below w.heap.size w wx) => tablesOf_any cs v wx (ht.below hb) (h.on hb) hl); obtain ⟨pa, pc, rfl, _⟩ := h.1.len; clear h ht hl; generalize cs.length = n at *
 have HB0 := hide ((Below.refl w.heap.size w).alloc (Nat.le_refl _) (.cells #[.slice pa n pc] 39)); go_enter Tryz.func5, Tryz.ntmps5; go_wp2_with fail; generalize w.alloc (.cells #[.slice pa n pc] 39) = wa at *
 refine (HC.out wa HB0.out).mono ?_; rintro e w1 ⟨v', rfl, _, _, hb1⟩; have HB1 := hide (HB0.out.trans (hb1.mono HB0.out.size)); clear HC hb1; go_wp2_with fail; go_ret; exact ⟨rfl, HB1.out⟩
namespace Ly
open Pp Hr
theorem bfind {l : List XCls} {up : List (List Nat)} {bs : List Nat} (hn : bs.Nodup) (hl : bs.length = l.length) (n : Bs) : (bs.find? fun b => ((bnet l up bs).cl b).name == n) = (placeL l n).map (bs.getD · 0) := by
 have hcl : ∀ k, k < bs.length -> (bnet l up bs).cl (bs.getD k 0) = clP l k := by
  intro k hk; show clP l (bs.idxOf (bs.getD k 0)) = clP l k; rw [idx_get hn hk]
 cases hp : placeL l n with
 | none =>
   rw [Option.map_none, List.find?_eq_none]; intro b hb; obtain ⟨k, hk, rfl⟩ := List.mem_iff_getElem.1 hb; have h1 := hcl k hk; rw [show bs.getD k 0 = bs[k] by simp [List.getD, List.getElem?_eq_getElem hk]] at h1
   rw [h1]; have := placeL_none.1 hp k _ (at_of (by omega : k < l.length))
   simpa using this
 | some k =>
   obtain ⟨c, hc, hcn, hfirst⟩ := placeL_lt hp; have hk : k < l.length := (List.getElem?_eq_some_iff.1 hc).1; have hkb : k < bs.length := by omega
   rw [Option.map_some, List.find?_eq_some_iff_getElem]; refine ⟨?_, k, hkb, by simp [List.getD, List.getElem?_eq_getElem hkb], ?_⟩
   · rw [hcl k hkb, clP_at hc, hcn]; simp
   · intro j hj
     have hjb : j < bs.length := by omega
     have h1 := hcl j hjb; rw [show bs.getD j 0 = bs[j] by simp [List.getD, List.getElem?_eq_getElem hjb]] at h1
     rw [h1]; have := hfirst j _ hj (at_of (by omega : j < l.length))
     simpa using this
def classQ (cs : List XCls) (n : Bs) : Option Nat := match placeL (allL cs) n with
 | none => none
 | some k => if (clP (allL cs) k).iface = true then none else some k
end Ly
theorem lclass_any (r : Option Nat) (fc : Bool) (a : Option Addr) (m c : Nat) (n : Pp.Bs) (w : World)
 (hf : Calls Tryz.prog 19 #[.slice a m c, .string ⟨n.toArray⟩] w fun e w' => e = .returned (.tuple #[.pointer (r.map fun b => ⟨b, 0, none⟩), .bool r.isSome]) /\ w' = w)
 (hc : ∀ b, r = some b -> w.cell? ⟨b, 1, none⟩ = some (.bool fc)) :
 Calls Tryz.prog 9 #[.slice a m c, .string ⟨n.toArray⟩] w fun e w' => e = .returned (.tuple #[.pointer ((if fc then none else r).map fun b => ⟨b, 0, none⟩), .bool (if fc then none else r).isSome]) /\ w' = w := by
 have HF := hide hf; clear hf; cases r with
 | none =>
   have HF' := hide HF.out; clear HF hc; go_enter Tryz.func9, Tryz.ntmps9; go_wp2_with fail; refine HF'.out.mono ?_; rintro e w1 ⟨rfl, rfl⟩; go_wp2_with fail
   all_goals go_ret2
   all_goals exact ⟨rfl, rfl⟩
 | some b =>
   have c1 := hc b rfl; clear hc; cases fc with
   | true =>
     go_enter Tryz.func9, Tryz.ntmps9; go_wp2_with fail; refine HF.out.mono ?_; rintro e w1 ⟨rfl, rfl⟩; clear HF; go_wp2_with fail; go_ret2; exact ⟨rfl, rfl⟩
   | false =>
     go_enter Tryz.func9, Tryz.ntmps9; go_wp2_with fail; refine HF.out.mono ?_; rintro e w1 ⟨rfl, rfl⟩; clear HF; go_wp2_with fail; go_ret2; exact ⟨rfl, rfl⟩
end Go.Proofs.YtjlappamkfjlkabGreatDoor

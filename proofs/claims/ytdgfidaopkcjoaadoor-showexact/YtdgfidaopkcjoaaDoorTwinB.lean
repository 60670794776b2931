/- What TwinTypes, TwinMethod answer. -/
import Derived.Test.YtdgfidaopkcjoaaDoorTwinA
import Derived.Deep.RegionHeld
namespace Go.Proofs.YtdgfidaopkcjoaaDoor
open Go.RowKit
set_option linter.unusedVariables false
set_option linter.unusedSimpArgs false

namespace Ow
theorem info_of {P : Program} {t : TypeId} {s z b : Nat} (h : (P.info? t).map (fun i => (i.zero.map (fun z => z.cells.size), i.size, i.bytes)) = some (some z, s, b)) : ∃ i, P.info? t = some i ∧ i.zero.map (fun z => z.cells.size) = some z ∧ i.size = s ∧ i.bytes = b := by
  cases hi : P.info? t with
  | none => rw [hi] at h; cases h
  | some i => rw [hi] at h; simp only [Option.map_some, Option.some.injEq, Prod.mk.injEq] at h; exact ⟨i, rfl, h.1, h.2.1, h.2.2⟩
theorem i_str : (Tryd.prog.info? 9).map (fun i => (i.zero.map (fun z => z.cells.size), i.size, i.bytes)) = some (some 1, 1, 16) := by kernel_rfl
theorem i_ty : (Tryd.prog.info? 26).map (fun i => (i.zero.map (fun z => z.cells.size), i.size, i.bytes)) = some (some 2, 2, 24) := by kernel_rfl
theorem i_fld : (Tryd.prog.info? 50).map (fun i => (i.zero.map (fun z => z.cells.size), i.size, i.bytes)) = some (some 4, 4, 48) := by kernel_rfl
theorem i_ins : (Tryd.prog.info? 57).map (fun i => (i.zero.map (fun z => z.cells.size), i.size, i.bytes)) = some (some 4, 4, 48) := by kernel_rfl
theorem i_ctc : (Tryd.prog.info? 59).map (fun i => (i.zero.map (fun z => z.cells.size), i.size, i.bytes)) = some (some 4, 4, 40) := by kernel_rfl
theorem i_mth : (Tryd.prog.info? 55).map (fun i => (i.zero.map (fun z => z.cells.size), i.size, i.bytes)) = some (some 9, 9, 128) := by kernel_rfl
theorem i_cls : (Tryd.prog.info? 48).map (fun i => (i.zero.map (fun z => z.cells.size), i.size, i.bytes)) = some (some 6, 6, 112) := by kernel_rfl
theorem fz_blk {w : World} {b : Nat} {c : Array Value} {t : TypeId} (h : w.heap[b]? = some (.cells c t (0, 0))) (k : Nat) : w.frozen? ⟨b, k, none⟩ = false := by simp [World.frozen?, h]
/-- A block of that item type. -/
def Ty (w : World) (b : Nat) (t : TypeId) : Prop := ∃ c f, w.heap[b]? = some (.cells c t f)
theorem Ty.set {w : World} {b : Nat} {t : TypeId} (h : Ty w b t) (g k : Nat) (u : Value) : Ty (w.setCell ⟨g, k, none⟩ u) b t := by
  obtain ⟨c, f, h⟩ := h
  by_cases e : g = b
  · subst e
    have hlt := lt_of_blk h
    have h' : w.heap[g] = .cells c t f := by simpa [Array.getElem?_eq_getElem hlt] using h
    refine ⟨c.setIfInBounds k u, f, ?_⟩
    show (w.heap.modify g _)[g]? = _
    rw [Array.getElem?_eq_getElem (by simpa using hlt), Array.getElem_modify_self, h']
    rfl
  · exact ⟨c, f, by rw [Below.heap_setCell _ _ _ _ (fun h2 => e h2.symm)]; exact h⟩
theorem Kx.set {w : World} {b : Nat} {t : TypeId} (h : Ty w b t) (k : Nat) (u : Value) : Kx t w (w.setCell ⟨b, k, none⟩ u) := by
  obtain ⟨c, f, h⟩ := h
  exact ⟨by simp, fun i x e g hi h1 => by
    rw [Below.heap_setCell _ _ _ _ (fun e2 => by subst e2; rw [h] at hi; simp at hi; exact h1 hi.2.1.symm)]; exact hi⟩
theorem sets12 {w : World} {n : Nat} {t : TypeId} {v3 v7 v8 u0 u1 u2 u3 u4 u5 u6 u7 u8 : Value} (h0 : Ty w n t) (h1 : Ty w (n + 1) t) :
    Kx t w ((((((((((((w.setCell ⟨n, 3, none⟩ v3).setCell ⟨n, 7, none⟩ v7).setCell ⟨n, 8, none⟩ v8).setCell ⟨n + 1, 0, none⟩ u0).setCell ⟨n + 1, 1, none⟩ u1).setCell ⟨n + 1, 2, none⟩ u2).setCell ⟨n + 1, 3, none⟩ u3).setCell ⟨n + 1, 4, none⟩ u4).setCell ⟨n + 1, 5, none⟩ u5).setCell ⟨n + 1, 6, none⟩ u6).setCell ⟨n + 1, 7, none⟩ u7).setCell ⟨n + 1, 8, none⟩ u8) ∧
    Below n w ((((((((((((w.setCell ⟨n, 3, none⟩ v3).setCell ⟨n, 7, none⟩ v7).setCell ⟨n, 8, none⟩ v8).setCell ⟨n + 1, 0, none⟩ u0).setCell ⟨n + 1, 1, none⟩ u1).setCell ⟨n + 1, 2, none⟩ u2).setCell ⟨n + 1, 3, none⟩ u3).setCell ⟨n + 1, 4, none⟩ u4).setCell ⟨n + 1, 5, none⟩ u5).setCell ⟨n + 1, 6, none⟩ u6).setCell ⟨n + 1, 7, none⟩ u7).setCell ⟨n + 1, 8, none⟩ u8) := by
  have key : ∀ (g k : Nat) (u : Value) (x : World), n ≤ g → Ty x g t → (Ty x n t ∧ Ty x (n + 1) t ∧ Kx t w x ∧ Below n w x) → (Ty (x.setCell ⟨g, k, none⟩ u) n t ∧ Ty (x.setCell ⟨g, k, none⟩ u) (n + 1) t ∧ Kx t w (x.setCell ⟨g, k, none⟩ u) ∧ Below n w (x.setCell ⟨g, k, none⟩ u)) := fun g k u x hg ht h => ⟨h.1.set _ _ _, h.2.1.set _ _ _, h.2.2.1.trans (Kx.set ht k u), h.2.2.2.trans ((Below.refl _ _).setCell hg _)⟩
  have a0 : Ty w n t ∧ Ty w (n + 1) t ∧ Kx t w w ∧ Below n w w := ⟨h0, h1, Kx.refl _ _, Below.refl _ _⟩
  have a1 := key n 3 v3 _ (Nat.le_refl _) a0.1 a0
  have a2 := key n 7 v7 _ (Nat.le_refl _) a1.1 a1
  have a3 := key n 8 v8 _ (Nat.le_refl _) a2.1 a2
  have a4 := key (n + 1) 0 u0 _ (Nat.le_succ _) a3.2.1 a3
  have a5 := key (n + 1) 1 u1 _ (Nat.le_succ _) a4.2.1 a4
  have a6 := key (n + 1) 2 u2 _ (Nat.le_succ _) a5.2.1 a5
  have a7 := key (n + 1) 3 u3 _ (Nat.le_succ _) a6.2.1 a6
  have a8 := key (n + 1) 4 u4 _ (Nat.le_succ _) a7.2.1 a7
  have a9 := key (n + 1) 5 u5 _ (Nat.le_succ _) a8.2.1 a8
  have b1 := key (n + 1) 6 u6 _ (Nat.le_succ _) a9.2.1 a9
  have b2 := key (n + 1) 7 u7 _ (Nat.le_succ _) b1.2.1 b1
  have b3 := key (n + 1) 8 u8 _ (Nat.le_succ _) b2.2.1 b2
  exact ⟨b3.2.2.1, b3.2.2.2⟩
theorem blk_alloc2a (w : World) (o o' : Obj) : ((w.alloc o).alloc o').heap[w.heap.size]? = some o := by
  exact (heap_alloc_old (w.alloc o) o' (by simp)).trans (heap_alloc_new w o)
theorem blk_alloc2b (w : World) (o o' : Obj) : ((w.alloc o).alloc o').heap[w.heap.size + 1]? = some o' := by
  have := heap_alloc_new (w.alloc o) o'
  simpa using this
theorem bel_alloc2 (w : World) (o o' : Obj) : Below w.heap.size w ((w.alloc o).alloc o') := ((Below.refl w.heap.size w).alloc (Nat.le_refl _) o).alloc (by simp) o'
end Ow

set_option maxRecDepth 100000 in
set_option maxHeartbeats 4000000 in
theorem TwinTypes_any (l : List Pp.Ty) (v : Value) (w : World) (h : RowX w 2 TyX v l) (hn : l.length ≤ 100000) :
    Calls Tryd.prog 56 #[v] w fun e w' => ∃ v', e = .returned v' ∧ Ow.OwnX w' w.heap.size 26 2 TyX v' l ∧ Below w.heap.size w w' := by
  obtain ⟨i0, hi, hz0, hz1, hz2⟩ := Ow.info_of Ow.i_ty
  have HR := hide h
  obtain ⟨a, c, rfl, hc⟩ := h.len
  clear h
  go_enter Tryd.func56, Tryd.ntmps56
  go_wp2_with (at_builtin; refine Ow.wpList_app rfl (.tmp 4) (.tmp 5) 51 rfl Tryd.underlying51 hi hz0 hz1 hz2 (by decide) Ow.shp_ty rfl (Ow.OwnX.nil w w.heap.size 26 2 TyX) rfl HR.out ?c1 (by decide) (Nat.le_refl _) ?_)
  case c1 => simp; omega
  · intro v' w' hown hgrow
    have hB : Below w.heap.size w w' := Ow.bel_grown (Ow.OwnX.nil w w.heap.size 26 2 TyX) (Nat.le_refl _) hgrow
    clear hgrow
    go_wp2_with fail
    go_ret
    exact ⟨_, rfl, hown, hB⟩

set_option maxRecDepth 100000 in
set_option maxHeartbeats 16000000 in
theorem TwinMethod_any (m : Pp.XMth) (ys : List Value) (w : World) (h : MthX w m ys) (hl : Pp.LtM m) :
    Calls Tryd.prog 34 #[.agg ys.toArray] w fun e w' => ∃ ys', e = .returned (.agg ys'.toArray) ∧ Ow.MthO w' w.heap.size m ys' ∧ Below w.heap.size w w' := by
  obtain ⟨vp, vc, vk, rfl, p1, i1, k1, z1⟩ := h
  obtain ⟨j0, hj, hj0, hj1, hj2⟩ := Ow.info_of Ow.i_ins
  obtain ⟨k0, hk, hk0, hk1, hk2⟩ := Ow.info_of Ow.i_ctc
  have HZ := hide z1
  have HL := hide hl.1
  have HT := hide (fun w' (hb : Below w.heap.size w w') => TwinTypes_any m.params vp w' (p1.on hb fun _ _ h => h) (by have := hl.1.2.1; omega))
  have HI := hide (fun w' (hb : Below w.heap.size w w') => i1.on hb fun _ _ h => h)
  have HK := hide (fun w' (hb : Below w.heap.size w w') => k1.on hb fun _ _ h => h)
  obtain ⟨pa, pc, rfl, _⟩ := p1.len
  obtain ⟨ia, ic, rfl, _⟩ := i1.len
  obtain ⟨ka, kc, rfl, _⟩ := k1.len
  clear p1 i1 k1 z1 hl
  simp only [mthXL, List.toArray]
  go_enter Tryd.func34, Tryd.ntmps34
  go_wp2_with fail
  have hx0 := Ow.blk_alloc2a w (.cells #[.string ⟨m.name.toArray⟩, .bool m.stat, .bool m.abst, .slice pa m.params.length pc, .int .i64 m.ret.kind, .string ⟨m.ret.name.toArray⟩, .int .i64 m.locals, .slice ia m.code.length ic, .slice ka m.catches.length kc] 55) (.cells #[.string ⟨#[]⟩, .bool false, .bool false, .slice none 0 0, .int .i64 0, .string ⟨#[]⟩, .int .i64 0, .slice none 0 0, .slice none 0 0] 55)
  have hx1 := Ow.blk_alloc2b w (.cells #[.string ⟨m.name.toArray⟩, .bool m.stat, .bool m.abst, .slice pa m.params.length pc, .int .i64 m.ret.kind, .string ⟨m.ret.name.toArray⟩, .int .i64 m.locals, .slice ia m.code.length ic, .slice ka m.catches.length kc] 55) (.cells #[.string ⟨#[]⟩, .bool false, .bool false, .slice none 0 0, .int .i64 0, .string ⟨#[]⟩, .int .i64 0, .slice none 0 0, .slice none 0 0] 55)
  have HB0 := hide (Ow.bel_alloc2 w (.cells #[.string ⟨m.name.toArray⟩, .bool m.stat, .bool m.abst, .slice pa m.params.length pc, .int .i64 m.ret.kind, .string ⟨m.ret.name.toArray⟩, .int .i64 m.locals, .slice ia m.code.length ic, .slice ka m.catches.length kc] 55) (.cells #[.string ⟨#[]⟩, .bool false, .bool false, .slice none 0 0, .int .i64 0, .string ⟨#[]⟩, .int .i64 0, .slice none 0 0, .slice none 0 0] 55))
  have hsz0 : w.heap.size + 1 < ((w.alloc (.cells #[.string ⟨m.name.toArray⟩, .bool m.stat, .bool m.abst, .slice pa m.params.length pc, .int .i64 m.ret.kind, .string ⟨m.ret.name.toArray⟩, .int .i64 m.locals, .slice ia m.code.length ic, .slice ka m.catches.length kc] 55)).alloc (.cells #[.string ⟨#[]⟩, .bool false, .bool false, .slice none 0 0, .int .i64 0, .string ⟨#[]⟩, .int .i64 0, .slice none 0 0, .slice none 0 0] 55)).heap.size := by simp
  generalize ((w.alloc (.cells #[.string ⟨m.name.toArray⟩, .bool m.stat, .bool m.abst, .slice pa m.params.length pc, .int .i64 m.ret.kind, .string ⟨m.ret.name.toArray⟩, .int .i64 m.locals, .slice ia m.code.length ic, .slice ka m.catches.length kc] 55)).alloc (.cells #[.string ⟨#[]⟩, .bool false, .bool false, .slice none 0 0, .int .i64 0, .string ⟨#[]⟩, .int .i64 0, .slice none 0 0, .slice none 0 0] 55)) = w0 at *
  have HC : Hid (∀ wx, Below w0.heap.size w0 wx → (∀ k, wx.cell? ⟨w.heap.size, k, none⟩ = #[.string ⟨m.name.toArray⟩, .bool m.stat, .bool m.abst, .slice pa m.params.length pc, .int .i64 m.ret.kind, .string ⟨m.ret.name.toArray⟩, .int .i64 m.locals, .slice ia m.code.length ic, .slice ka m.catches.length kc][k]?) ∧ (∀ k, wx.frozen? ⟨w.heap.size, k, none⟩ = false) ∧ (∀ k, wx.cell? ⟨w.heap.size + 1, k, none⟩ = #[.string ⟨#[]⟩, .bool false, .bool false, .slice none 0 0, .int .i64 0, .string ⟨#[]⟩, .int .i64 0, .slice none 0 0, .slice none 0 0][k]?) ∧ (∀ k, wx.frozen? ⟨w.heap.size + 1, k, none⟩ = false)) := hide fun wx hb => by
    have e0 := (hb.block w.heap.size (by omega)).trans hx0
    have e1 := (hb.block (w.heap.size + 1) hsz0).trans hx1
    exact ⟨fun k => cell_box e0 k, fun k => Ow.fz_blk e0 k, fun k => cell_box e1 k, fun k => Ow.fz_blk e1 k⟩
  have HD : Hid (Below w0.heap.size w0 w0.drew) := hide (Below.drew (Below.refl _ _))
  have HM0 : Hid (∀ wx, Below w0.heap.size w0 wx → Ow.Ty wx w.heap.size 55) := hide fun wx hb => ⟨_, _, (hb.block w.heap.size (by omega)).trans hx0⟩
  have HM1 : Hid (∀ wx, Below w0.heap.size w0 wx → Ow.Ty wx (w.heap.size + 1) 55) := hide fun wx hb => ⟨_, _, (hb.block (w.heap.size + 1) hsz0).trans hx1⟩
  clear hx0 hx1 hsz0
  have c3 : w0.cell? ⟨w.heap.size, 3, none⟩ = some (.slice pa m.params.length pc) := (HC.out w0 (Below.refl _ _)).1 3
  have c7 : w0.cell? ⟨w.heap.size, 7, none⟩ = some (.slice ia m.code.length ic) := (HC.out w0 (Below.refl _ _)).1 7
  have c8 : w0.cell? ⟨w.heap.size, 8, none⟩ = some (.slice ka m.catches.length kc) := (HC.out w0 (Below.refl _ _)).1 8
  go_region_law (first
    | (refine Ow.step_app rfl (.tmp 8) (.tmp 10) 52 rfl Tryd.underlying52 hj hj0 hj1 hj2 (by decide) Ow.shp_ins (by first | rfl | simp [Act.eval, Act.put]) (Ow.OwnX.nil w5 w5.heap.size 57 4 InsX) (by first | rfl | simp [Act.eval, Act.put]) (HI.out w5 (HB0.out.trans (HB5.out.mono HB0.out.size))) (by have := HL.out.2.2.1; simp; omega) (by decide) (Nat.le_refl _) ?_
       intro v6 w6 ho6 hg6
       have HO6 := hide ho6
       have H6 := hide (Ow.bel_grown (Ow.OwnX.nil w5 w5.heap.size 57 4 InsX) (Nat.le_refl _) hg6)
       have HB6 := hide (HB5.out.trans (H6.out.mono HB5.out.size))
       obtain ⟨a6, n6, rfl⟩ := ho6.shape
       have c68 : w6.cell? ⟨w.heap.size, 8, none⟩ = some (.slice ka m.catches.length kc) := (HC.out w6 HB6.out).1 8
       clear ho6 hg6)
    | (refine Ow.step_app rfl (.tmp 12) (.tmp 14) 53 rfl Tryd.underlying53 hk hk0 hk1 hk2 (by decide) Ow.shp_ctc (by first | rfl | simp [Act.eval, Act.put]) (Ow.OwnX.nil w6 w6.heap.size 59 4 CtcX) (by first | rfl | simp [Act.eval, Act.put]) (HK.out w6 (HB0.out.trans (HB6.out.mono HB0.out.size))) (by have := HL.out.2.2.2.1; simp; omega) (by decide) (Nat.le_refl _) ?_
       intro v7 w7 ho7 hg7
       have HO7 := hide ho7
       have H7 := hide (Ow.bel_grown (Ow.OwnX.nil w6 w6.heap.size 59 4 CtcX) (Nat.le_refl _) hg7)
       have HB7 := hide (HB6.out.trans (H7.out.mono HB6.out.size))
       obtain ⟨a7, n7, rfl⟩ := ho7.shape
       have d3 : w7.cell? ⟨w.heap.size, 3, none⟩ = some (.slice pa m.params.length pc) := (HC.out w7 HB7.out).1 3
       have d7 : w7.cell? ⟨w.heap.size, 7, none⟩ = some (.slice ia m.code.length ic) := (HC.out w7 HB7.out).1 7
       have d8 : w7.cell? ⟨w.heap.size, 8, none⟩ = some (.slice ka m.catches.length kc) := (HC.out w7 HB7.out).1 8
       have f3 := (HC.out w7 HB7.out).2.1 3
       have f7 := (HC.out w7 HB7.out).2.1 7
       have f8 := (HC.out w7 HB7.out).2.1 8
       clear ho7 hg7)
    | (go_simp
       refine (HT.out _ (HB0.out.trans (HD.out.mono HB0.out.size))).mono ?_
       rintro e w5 ⟨v5, rfl, ho5, hb5⟩
       have HO5 := hide ho5
       have HB5 := hide (HD.out.trans (hb5.mono HD.out.size))
       obtain ⟨a5, n5, rfl⟩ := ho5.shape
       have c57 : w5.cell? ⟨w.heap.size, 7, none⟩ = some (.slice ia m.code.length ic) := (HC.out w5 HB5.out).1 7
       have c58 : w5.cell? ⟨w.heap.size, 8, none⟩ = some (.slice ka m.catches.length kc) := (HC.out w5 HB5.out).1 8
       clear ho5 hb5))
  all_goals
    have g0 : w7.cell? ⟨w.heap.size, 0, none⟩ = some (.string ⟨m.name.toArray⟩) := (HC.out w7 HB7.out).1 0
    have g1 : w7.cell? ⟨w.heap.size, 1, none⟩ = some (.bool m.stat) := (HC.out w7 HB7.out).1 1
    have g2 : w7.cell? ⟨w.heap.size, 2, none⟩ = some (.bool m.abst) := (HC.out w7 HB7.out).1 2
    have g4 : w7.cell? ⟨w.heap.size, 4, none⟩ = some (.int .i64 m.ret.kind) := (HC.out w7 HB7.out).1 4
    have g5 : w7.cell? ⟨w.heap.size, 5, none⟩ = some (.string ⟨m.ret.name.toArray⟩) := (HC.out w7 HB7.out).1 5
    have g6 : w7.cell? ⟨w.heap.size, 6, none⟩ = some (.int .i64 m.locals) := (HC.out w7 HB7.out).1 6
    have e0 : w7.cell? ⟨w.heap.size + 1, 0, none⟩ = some (.string ⟨#[]⟩) := (HC.out w7 HB7.out).2.2.1 0
    have q0 := (HC.out w7 HB7.out).2.2.2 0
    have e1 : w7.cell? ⟨w.heap.size + 1, 1, none⟩ = some (.bool false) := (HC.out w7 HB7.out).2.2.1 1
    have q1 := (HC.out w7 HB7.out).2.2.2 1
    have e2 : w7.cell? ⟨w.heap.size + 1, 2, none⟩ = some (.bool false) := (HC.out w7 HB7.out).2.2.1 2
    have q2 := (HC.out w7 HB7.out).2.2.2 2
    have e3 : w7.cell? ⟨w.heap.size + 1, 3, none⟩ = some (.slice none 0 0) := (HC.out w7 HB7.out).2.2.1 3
    have q3 := (HC.out w7 HB7.out).2.2.2 3
    have e4 : w7.cell? ⟨w.heap.size + 1, 4, none⟩ = some (.int .i64 0) := (HC.out w7 HB7.out).2.2.1 4
    have q4 := (HC.out w7 HB7.out).2.2.2 4
    have e5 : w7.cell? ⟨w.heap.size + 1, 5, none⟩ = some (.string ⟨#[]⟩) := (HC.out w7 HB7.out).2.2.1 5
    have q5 := (HC.out w7 HB7.out).2.2.2 5
    have e6 : w7.cell? ⟨w.heap.size + 1, 6, none⟩ = some (.int .i64 0) := (HC.out w7 HB7.out).2.2.1 6
    have q6 := (HC.out w7 HB7.out).2.2.2 6
    have e7 : w7.cell? ⟨w.heap.size + 1, 7, none⟩ = some (.slice none 0 0) := (HC.out w7 HB7.out).2.2.1 7
    have q7 := (HC.out w7 HB7.out).2.2.2 7
    have e8 : w7.cell? ⟨w.heap.size + 1, 8, none⟩ = some (.slice none 0 0) := (HC.out w7 HB7.out).2.2.1 8
    have q8 := (HC.out w7 HB7.out).2.2.2 8
    clear c3 c7 c8
    have T0 : Ow.Ty w7 w.heap.size 55 := HM0.out w7 HB7.out
    have T1 : Ow.Ty w7 (w.heap.size + 1) 55 := HM1.out w7 HB7.out
    have HSp := hide (Ow.sets12 (v3 := .slice a5 m.params.length n5) (v7 := .slice a6 m.code.length n6) (v8 := .slice a7 m.catches.length n7) (u0 := .string ⟨m.name.toArray⟩) (u1 := .bool m.stat) (u2 := .bool m.abst) (u3 := .slice a5 m.params.length n5) (u4 := .int .i64 m.ret.kind) (u5 := .string ⟨m.ret.name.toArray⟩) (u6 := .int .i64 m.locals) (u7 := .slice a6 m.code.length n6) (u8 := .slice a7 m.catches.length n7) T0 T1)
    clear T0 T1
    go_wp2_with fail
    refine bodyPost_ret (v := .agg (mthXL m (.slice a5 m.params.length n5) (.slice a6 m.code.length n6) (.slice a7 m.catches.length n7)).toArray) (by simp [results, Tryd.results34, go_sem, mthXL, *]) rfl ?_
    have hB7 := HB0.out.trans (HB7.out.mono HB0.out.size)
    have s5 := HB5.out.size
    have s6 := HB6.out.size
    have s0 := HB0.out.size
    refine ⟨_, rfl, ⟨_, _, _, rfl, ?_, ?_, ?_, HZ.out⟩, hB7.trans HSp.out.2⟩
    · exact ((((HO5.out.on H6.out fun _ _ h => h).on H7.out fun _ _ h => h).kx HSp.out.1 (by decide) fun _ _ h => h).low s0 fun _ _ h => h)
    · exact (((HO6.out.on H7.out fun _ _ h => h).kx HSp.out.1 (by decide) fun _ _ h => h).low (Nat.le_trans s0 s5) fun _ _ h => h)
    · exact ((HO7.out.kx HSp.out.1 (by decide) fun _ _ h => h).low (Nat.le_trans s0 s6) fun _ _ h => h)

end Go.Proofs.YtdgfidaopkcjoaaDoor

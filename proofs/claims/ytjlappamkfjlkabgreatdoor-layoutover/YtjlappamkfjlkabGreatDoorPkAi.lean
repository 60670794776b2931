/- What the laws of this seat lean on: 5 texts. -/
import Derived.Test.YtjlappamkfjlkabGreatDoorPkAg
import Derived.Test.YtjlappamkfjlkabGreatDoorPkAh
import Derived.Test.YtjlappamkfjlkabGreatDoorPkAe
set_option maxRecDepth 100000
set_option maxHeartbeats 64000000
set_option linter.unusedVariables false
set_option linter.unusedSimpArgs false
namespace Go.Proofs.YtjlappamkfjlkabGreatDoor
open Go.RowKit
namespace Hr
theorem shp_clsx (w : World) : Ow.Shp (ClsX w) 6 := by
 rintro x ys ⟨vp, vc, vk, rfl, h1, h2, h3, _⟩; obtain ⟨_, _, rfl, _⟩ := h1.len; obtain ⟨_, _, rfl, _⟩ := h2.len; obtain ⟨_, _, rfl, _⟩ := h3.len; exact ⟨rfl, by intro u hu; simp [clsXL] at hu; rcases hu with rfl | rfl | rfl | rfl | rfl | rfl <;> rfl⟩
def UpO (w : World) (base : Nat) (u : List Nat) (ys : List Value) : Prop := ∃ v, ys = [v] /\ Ow.OwnX w base 3 1 IntX v u
theorem UpO.on {w w' : World} {base base' : Nat} {u : List Nat} {ys : List Value} (h : UpO w base u ys) (hb : Below w.heap.size w w') (hl : base' <= base) : UpO w' base' u ys := by
 obtain ⟨v, rfl, h⟩ := h; exact ⟨v, rfl, (h.on hb fun _ _ h => h).low hl fun _ _ h => h⟩
theorem UpO.kx {t : TypeId} {w w' : World} {base : Nat} {u : List Nat} {ys : List Value} (h : UpO w base u ys) (hk : Ow.Kx t w w') (ht : 3 ≠ t) : UpO w' base u ys := by
 obtain ⟨v, rfl, h⟩ := h; exact ⟨v, rfl, h.kx hk ht fun _ _ h => h⟩
theorem UpO.x {w : World} {base : Nat} {u : List Nat} {ys : List Value} (h : UpO w base u ys) : UpX w u ys := by
 obtain ⟨v, rfl, h⟩ := h; exact ⟨v, rfl, h.row shp_int fun _ _ h => h⟩
theorem shp_upo {w : World} {base : Nat} : Ow.Shp (UpO w base) 1 := by
 rintro x ys ⟨v, rfl, h⟩; obtain ⟨_, _, rfl⟩ := h.shape; exact ⟨rfl, by intro u hu; simp at hu; subst hu; rfl⟩
theorem i_ints : (Tryz.prog.info? 102).map (fun i => (i.zero.map (fun z => z.cells.size), i.size, i.bytes)) = some (some 1, 1, 24) := by kernel_rfl
theorem few_all {cs : List Pp.XCls} (h : Pp.progB cs = true) : ∀ c ∈ allL cs, c.ifaces.length <= 4 := by
 intro c hc
 rcases List.mem_append.1 hc with hc | hc
 · simp only [base, subs, List.map_cons, List.map_nil, List.mem_cons, List.not_mem_nil, or_false] at hc
   rcases hc with rfl | rfl | rfl | rfl | rfl | rfl | rfl | rfl <;> exact Nat.zero_le _
 · have h1 := ((Pp.eachB_iff cs 10 Pp.clsB).1 h).2 c hc
   simp only [Pp.clsB, Bool.and_eq_true, Pp.eachB_iff] at h1; exact h1.2.2.1.1
theorem ifs_len {l : List Pp.XCls} : ∀ {ns : List Pp.Bs} {u : List Nat}, ifsL l ns = some u -> u.length = ns.length
 | [], u, h => by simp [ifsL] at h; subst h; rfl
 | n :: ns, u, h => by
   simp only [ifsL] at h; cases hu : upL l true n with
   | none => rw [hu] at h; cases h
   | some k =>
     rw [hu] at h; cases hr : ifsL l ns with
     | none => rw [hr] at h; cases h
     | some r => rw [hr] at h; cases h; simp [ifs_len hr]
theorem ups_len {l : List Pp.XCls} {c : Pp.XCls} {u : List Nat} (h : upsL l c = some u) : u.length <= 1 + c.ifaces.length := by
 unfold upsL at h; cases hs : supL l c with
 | none => rw [hs] at h; cases h
 | some a =>
   rw [hs] at h; cases hi : ifsL l c.ifaces with
   | none => rw [hi] at h; cases h
   | some b =>
     rw [hi] at h; cases h; have h1 := ifs_len hi
     have h2 : a.length <= 1 := by
      unfold supL at hs; cases hsu : superL c with
      | none => rw [hsu] at hs; cases hs; simp
      | some n =>
        rw [hsu] at hs; cases hu : upL l false n with
        | none => simp only [hu] at hs; cases hs
        | some k => simp only [hu] at hs; cases hs; simp
     rw [List.length_append]; omega
theorem grow_few {l : List Pp.XCls} : ∀ {cs : List Pp.XCls} {r : List (List Nat)}, growL l cs = some r -> (∀ c ∈ cs, c.ifaces.length <= 4) -> ∀ u ∈ r, u.length <= 2000
 | [], r, h, _ => by simp [growL] at h; subst h; simp
 | c :: cs, r, h, hl => by
   simp only [growL] at h; cases hu : upsL l c with
   | none => rw [hu] at h; cases h
   | some u =>
     rw [hu] at h; cases hr : growL l cs with
     | none => rw [hr] at h; cases h
     | some s =>
       rw [hr] at h; cases h; intro v hv
       rcases List.mem_cons.1 hv with rfl | hv
       · have := ups_len hu; have := hl c (by simp); omega
       · exact grow_few hr (fun c hc => hl c (by simp [hc])) v hv
theorem err_twice {cs : List Pp.XCls} (h : Pp.progB cs = true) (h1 : oneB (allL cs) = false) : errL cs = 6 := by
 unfold errL; rw [if_pos h, if_neg (fun h2 => by rw [h2] at h1; cases h1)]
theorem err_none {cs : List Pp.XCls} (h : Pp.progB cs = true) (h1 : oneB (allL cs) = true) (h2 : growL (allL cs) (allL cs) = none) : errL cs = 5 := by
 unfold errL; rw [if_pos h, if_pos h1, h2]
theorem err_ring {cs : List Pp.XCls} {up : List (List Nat)} (h : Pp.progB cs = true) (h1 : oneB (allL cs) = true) (h2 : growL (allL cs) (allL cs) = some up) (h3 : Ring up) : errL cs = 7 := by
 unfold errL; rw [if_pos h, if_pos h1, h2]; simp only; rw [if_pos ((ringB_iff (grow_low h2)).2 h3)]
theorem err_ok {cs : List Pp.XCls} {up : List (List Nat)} (h : Pp.progB cs = true) (h1 : oneB (allL cs) = true) (h2 : growL (allL cs) (allL cs) = some up) (h3 : ¬ Ring up) : errL cs = 0 := by
 unfold errL; rw [if_pos h, if_pos h1, h2]; simp only; rw [if_neg fun h4 => h3 ((ringB_iff (grow_low h2)).1 h4)]
theorem err_zero {cs : List Pp.XCls} (h : errL cs = 0) : Pp.progB cs = true /\ oneL (allL cs) /\ ∃ up, growL (allL cs) (allL cs) = some up /\ ¬ Ring up := by
 unfold errL at h
 split at h
 · rename_i hp
   split at h
   · rename_i ho
     split at h
     · cases h
     · rename_i up hg
       split at h
       · cases h
       · exact ⟨hp, (oneB_iff _).1 ho, up, hg, fun h4 => (by assumption : ¬ ringB up = true) ((ringB_iff (grow_low hg)).2 h4)⟩
   · cases h
 · cases h
theorem two_put {w6 : World} {tb : Nat} {t : TypeId} {x0 x1 : Value} (h : w6.heap[tb]? = some (.cells #[x0, x1] t (0, 0))) (u0 u1 : Value) :
 ((w6.setCell ⟨tb, 0, none⟩ u0).setCell ⟨tb, 1, none⟩ u1).heap[tb]? = some (.cells #[u0, u1] t (0, 0)) /\ Ow.Kx t w6 ((w6.setCell ⟨tb, 0, none⟩ u0).setCell ⟨tb, 1, none⟩ u1) /\ ∀ b, b <= tb -> Below b w6 ((w6.setCell ⟨tb, 0, none⟩ u0).setCell ⟨tb, 1, none⟩ u1) := by
 have h1 := Ow.blk_put h 0 u0; have h2 := Ow.blk_put h1 1 u1; exact ⟨h2, (Ow.Kx.set ⟨_, _, h⟩ 0 u0).trans (Ow.Kx.set ⟨_, _, h1⟩ 1 u1), fun b hb => ((Below.refl _ _).setCell hb _).setCell hb _⟩
theorem all_len (cs : List Pp.XCls) : (allL cs).length = base.length + cs.length := List.length_append
structure TreeX (w : World) (cs : List Pp.XCls) (va vu : Value) (up : List (List Nat)) : Prop where
 all : RowX w 6 (ClsX w) va (allL cs)
 grw : growL (allL cs) (allL cs) = some up
 ups : UpsX w (allL cs).length vu up
structure TreeO (wp w : World) (cs : List Pp.XCls) (va vu : Value) (up : List (List Nat)) : Prop where
 all : Ow.OwnX w wp.heap.size 36 6 (ClsX wp) va (allL cs)
 grw : growL (allL cs) (allL cs) = some up
 own : Ow.OwnX w wp.heap.size 102 1 (UpO w wp.heap.size) vu up
 few : ∀ u ∈ up, u.length <= 2000
 top : (allL cs).length <= 1000
theorem TreeO.on {wp w w' : World} {cs : List Pp.XCls} {va vu : Value} {up : List (List Nat)} (h : TreeO wp w cs va vu up) (hb : Below w.heap.size w w') : TreeO wp w' cs va vu up :=
 ⟨h.all.on hb fun _ _ h => h, h.grw, h.own.on hb fun _ _ h => h.on hb (Nat.le_refl _), h.few, h.top⟩
theorem TreeO.kx {wp w w' : World} {cs : List Pp.XCls} {va vu : Value} {up : List (List Nat)} (h : TreeO wp w cs va vu up) (hk : Ow.Kx 93 w w') : TreeO wp w' cs va vu up :=
 ⟨h.all.kx hk (by decide) fun _ _ h => h, h.grw, h.own.kx hk (by decide) fun _ _ h => h.kx hk (by decide), h.few, h.top⟩
theorem TreeO.x {wp w : World} {cs : List Pp.XCls} {va vu : Value} {up : List (List Nat)} (h : TreeO wp w cs va vu up) (hb : Below wp.heap.size wp w) : TreeX w cs va vu up :=
 ⟨h.all.row (shp_clsx wp) fun _ _ h => h.on hb, h.grw, ⟨h.own.row shp_upo fun _ _ h => h.x, growL_len h.grw, growL_lt h.grw, h.few, h.top⟩⟩
end Hr
theorem grow_any (cs : List Pp.XCls) (v : Value) (wp w : World) (ht : TabS w) (hwp : Below wp.heap.size wp w) (h : ProgX wp v cs) :
 Calls Tryz.prog 24 #[.agg #[v]] w fun e w' => (∃ a1 n1 c1 a2 n2 c2, e = .returned (.tuple #[.agg #[.slice a1 n1 c1, .slice a2 n2 c2], .int .i64 (Hr.errL cs)]) /\ (Hr.errL cs = 0 -> ∃ up, Hr.TreeO wp w' cs (.slice a1 n1 c1) (.slice a2 n2 c2) up)) /\ Below w.heap.size w w' := by
 have HWP := hide hwp; have HCk := hide (fun wx (hb : Below w.heap.size w wx) => Check_any cs v wx (ht.below hb) ((h.on hwp).on hb)); have HP := hide h; obtain ⟨pa, pc, rfl, _⟩ := h.1.len; obtain ⟨n, hn⟩ : ∃ n, n = cs.length := ⟨_, rfl⟩; have HN := hide hn; rw [<- hn] at HCk HP ⊢; clear h ht hn hwp; have hx0 := hide (Ow.blk_alloc2a w (.cells #[.slice pa n pc] 39) (.cells #[.slice none 0 0, .slice none 0 0] 93)); have hx1 := hide (Ow.blk_alloc2b w (.cells #[.slice pa n pc] 39) (.cells #[.slice none 0 0, .slice none 0 0] 93)); have HB0 := hide (Ow.bel_alloc2 w (.cells #[.slice pa n pc] 39) (.cells #[.slice none 0 0, .slice none 0 0] 93)); go_enter Tryz.func24, Tryz.ntmps24; go_wp2_with fail; generalize (w.alloc (.cells #[.slice pa n pc] 39)).alloc (.cells #[.slice none 0 0, .slice none 0 0] 93) = w0 at *
 refine (HCk.out w0 HB0.out).mono ?_; rintro e w1 ⟨rfl, hb1⟩; have HB1 := hide hb1; have HC : Hid (∀ wx, Below w0.heap.size w0 wx -> wx.heap[w.heap.size]? = some (.cells #[.slice pa n pc] 39 (0, 0)) /\ wx.heap[w.heap.size + 1]? = some (.cells #[.slice none 0 0, .slice none 0 0] 93 (0, 0))) := hide fun wx hb => ⟨(hb.block _ (Ow.lt_of_blk hx0.out)).trans hx0.out, (hb.block _ (Ow.lt_of_blk hx1.out)).trans hx1.out⟩; clear hx0 hx1 hb1 HCk; by_cases hpb : Pp.progB cs = true
 · have HL10 : Hid (cs.length <= 10) := hide (by have := (Pp.eachB_iff cs 10 Pp.clsB).1 hpb; exact this.1)
   simp only [hpb, if_true]; go_wp2_with fail; rename_i K hK
   have hcut : ∀ (tb : Nat) (t3 t4 t6 t7 t8 t9 t10 t11 t12 t13 t14 t15 t16 t17 t18 t19 t20 t21 t22 t23 t24 t25 t26 t27 t28 t29 t30 t31 t32 t33 t34 t35 t36 t37 t38 t39 t40 t41 t42 t43 t44 t45 t46 t47 t48 t49 t50 t51 t52 : Value) (wx : World), (∃ a6 n6, Hid (Below w0.heap.size w0 wx) /\ w0.heap.size <= tb /\ Hid (wx.heap[tb]? = some (.cells #[.slice a6 (Hr.allL cs).length n6, .slice none 0 0] 93 (0, 0))) /\ Hid (Ow.OwnX wx w0.heap.size 36 6 (ClsX wp) (.slice a6 (Hr.allL cs).length n6) (Hr.allL cs))) -> K { tmps := #[.agg #[.slice pa n pc], .pointer (some ⟨w.heap.size, 0, none⟩), .pointer (some ⟨w.heap.size + 1, 0, none⟩), t3, t4, .pointer (some ⟨tb, 0, none⟩), t6, t7, t8, t9, t10, t11, t12, t13, t14, t15, t16, t17, t18, t19, t20, t21, t22, t23, t24, t25, t26, t27, t28, t29, t30, t31, t32, t33, t34, t35, t36, t37, t38, t39, t40, t41, t42, t43, t44, t45, t46, t47, t48, t49, t50, t51, t52], defers := [] } wx := by
    intro tb t3 t4 t6 t7 t8 t9 t10 t11 t12 t13 t14 t15 t16 t17 t18 t19 t20 t21 t22 t23 t24 t25 t26 t27 t28 t29 t30 t31 t32 t33 t34 t35 t36 t37 t38 t39 t40 t41 t42 t43 t44 t45 t46 t47 t48 t49 t50 t51 t52 wx hrel; refine hK _ _ ?_; clear hK; obtain ⟨a6, n6, HBx, htb, HTB, HA⟩ := hrel; have HFew := hide (Hr.few_all hpb); have HPB := hide hpb; have HM18 : Hid ((Hr.allL cs).length <= 18) := hide (by have := HL10.out; show (Hr.base ++ cs).length <= 18; rw [List.length_append]; show 8 + cs.length <= 18; omega)
    clear hpb HB1; obtain ⟨l, hl⟩ : ∃ l, l = Hr.allL cs := ⟨_, rfl⟩; have HLL := hide hl; rw [<- hl] at HTB HA HFew HM18; clear hl; obtain ⟨m, hm⟩ : ∃ m, m = l.length := ⟨_, rfl⟩; have HM := hide hm; rw [<- hm] at HTB HA HM18; have hm18 : m <= 18 := HM18.out; clear hm; have HBwx := hide (HB0.out.trans (HBx.out.mono HB0.out.size)); have q0 := cell_box HTB.out 0; have HRw : Hid (∀ wy, Below wx.heap.size wx wy -> RowX wy 6 (ClsX wy) (.slice a6 m n6) l) := hide fun wy hb => ((HA.out.row (Hr.shp_clsx wp) fun _ _ h => h.on (HWP.out.trans (HBwx.out.mono HWP.out.size))).on hb fun _ _ h => h.on hb); have k0 := cell_box (HC.out wx HBx.out).2 0; have k1 := cell_box (HC.out wx HBx.out).2 1; have f0 := Ow.fz_blk (HC.out wx HBx.out).2 0; have f1 := Ow.fz_blk (HC.out wx HBx.out).2 1; have HTw := hide (twice_any l (.slice a6 m n6) wx (HRw.out _ (Below.refl _ _)) (by have := HM.out; unfold maxLen; omega))
    clear k0 k1 f0 f1; go_wp2_with fail; refine HTw.out.mono ?_; rintro e w2 ⟨rfl, hb2⟩; have HB2 := hide (HBx.out.trans (hb2.mono HBx.out.size)); have HA2 := hide (HA.out.on hb2 fun _ _ h => h); have HTB2 := hide ((hb2.block tb (Ow.lt_of_blk HTB.out)).trans HTB.out); clear hb2 HTw HRw q0 HBwx HA HTB HBx; cases hone : Hr.oneB l with
    | false =>
      have HE : Hid (Hr.errL cs = 6) := hide (Hr.err_twice HPB.out (by rw [<- HLL.out]; exact hone))
      have k0 := cell_box (HC.out w2 HB2.out).2 0; have k1 := cell_box (HC.out w2 HB2.out).2 1; have f0 := Ow.fz_blk (HC.out w2 HB2.out).2 0; have f1 := Ow.fz_blk (HC.out w2 HB2.out).2 1; have HPt := hide ((Hr.two_put (HC.out w2 HB2.out).2 (.slice none 0 0) (.slice none 0 0)).2.2 w.heap.size (by omega))
      clear hone; simp only [Bool.not_false]; go_wp2_with fail; refine bodyPost_ret (v := .tuple #[.agg #[.slice none 0 0, .slice none 0 0], .int .i64 6]) (by simp [results, Tryz.results24, go_sem, *]) rfl ?_
      rw [HE.out]; exact ⟨⟨_, _, _, _, _, _, rfl, fun h => absurd h (by decide)⟩, (HB0.out.trans (HB2.out.mono HB0.out.size)).trans HPt.out⟩
    | true =>
      have HON := hide hone; clear hone; simp only [Bool.not_true]; have q0 := cell_box HTB2.out 0; obtain ⟨j0, hj, hj0, hj1, hj2⟩ := Ow.info_of Hr.i_ints; go_wp2_with fail; clear q0
      go_loopw [28] (fun i wr => ∃ (k : Nat) (r : List (List Nat)) (vu : Value), k <= m /\ i = .int .i64 k /\ Hid (Below w0.heap.size w0 wr) /\ Hid (wr.heap[tb]? = some (.cells #[.slice a6 m n6, vu] 93 (0, 0))) /\ Hid (Ow.OwnX wr w0.heap.size 36 6 (ClsX wp) (.slice a6 m n6) l) /\ Hid (Ow.OwnX wr w0.heap.size 102 1 (Hr.UpO wr w0.heap.size) vu r) /\ Hid (Hr.growL l (l.take k) = some r) /\ Hid (r.length = k)) (fun i _ => m - (intOf i).toNat)
      case atStart => exact ⟨0, [], .slice none 0 0, Nat.zero_le _, rfl, HB2, HTB2, HA2, hide (Ow.OwnX.nil _ _ _ _ _), hide rfl, hide rfl⟩
      case round =>
       obtain ⟨k, r, vu, hk, rfl, HBr, HTr, HAr, HUr, HG, HRL⟩ := hrel; clear HB2 HTB2 HA2; have HBw := hide (HB0.out.trans (HBr.out.mono HB0.out.size)); have HRow : Hid (∀ wy, Below wr.heap.size wr wy -> RowX wy 6 (ClsX wy) (.slice a6 m n6) l) := hide fun wy hb => ((HAr.out.row (Hr.shp_clsx wp) fun _ _ h => h.on (HWP.out.trans (HBw.out.mono HWP.out.size))).on hb fun _ _ h => h.on hb); have hmi : (m : Int) <= 18 := by omega
       obtain ⟨ua, uc, rfl⟩ := HUr.out.shape; have q0 := cell_box HTr.out 0; have q1 := cell_box HTr.out 1; have htl := Ow.lt_of_blk HTr.out; by_cases hlt : k < m
       · obtain ⟨x, hx⟩ : ∃ x, l[k]? = some x := ⟨l[k]'(by rw [<- HM.out]; exact hlt), List.getElem?_eq_getElem _⟩
         obtain ⟨g1, o1, eg1, ys1, w1', hc1⟩ := Hr.row_at (HRow.out wr (Below.refl _ _)) hx; subst eg1; have HX := hide w1'; have HCx := hide (hc1 wr (Below.refl _ _)); obtain ⟨va1, vd1, va2, vd2, va3, vd3, rfl⟩ := Hr.at_c w1'; have r0 := HCx.out 0 _ rfl; have r1 := HCx.out 1 _ rfl; have r2 := HCx.out 2 _ rfl; have r3 := HCx.out 3 _ rfl; have r4 := HCx.out 4 _ rfl; have r5 := HCx.out 5 _ rfl; rw [Nat.add_zero] at r0; have HUp := hide (fun wy (hb : Below wr.heap.size wr wy) => ups_any l (.slice (some ⟨g1, o1, none⟩) m n6) x _ wy (HRow.out wy hb) (by have := HM.out; omega) (HX.out.on hb) (by have := HFew.out x (List.mem_of_getElem? hx); omega))
         have HST := hide (Hr.growL_step (l := l) hx); have hlt' : (k : Int) < (m : Int) := by omega
         have htn : tb ≠ wr.heap.size := by omega
         have HAl := hide ((Below.refl wr.heap.size wr).alloc (Nat.le_refl _) (.cells #[.string ⟨x.name.toArray⟩, .bool x.iface, .string ⟨x.super.toArray⟩, .slice va1 x.ifaces.length vd1, .slice va2 x.fields.length vd2, .slice va3 x.methods.length vd3] 36)); clear hc1 HCx hx w1' HX; go_wp2_with fail; refine (HUp.out _ HAl.out).mono ?_; rintro e w5 ⟨⟨v5, rfl, ho5⟩, hb5⟩; have HB5 := hide (HAl.out.trans (hb5.mono HAl.out.size)); have HW5 := hide (HBr.out.trans (HB5.out.mono HBr.out.size)); have HO5 := hide (ho5.low (base' := wr.heap.size) HAl.out.size fun _ _ h => h); clear hb5 r0 r1 r2 r3 r4 r5 HUp; have HT5 := hide ((HB5.out.block tb htl).trans HTr.out); obtain ⟨a5, n5, rfl⟩ := ho5.shape; clear ho5; have s0 := cell_box HT5.out 0; have s1 := cell_box HT5.out 1; cases hups : Hr.upsL l x with
         | none =>
           have HE : Hid (Hr.errL cs = 5) := hide (Hr.err_none HPB.out (by rw [<- HLL.out]; exact HON.out) (by
            rw [<- HLL.out]; have h1 := HST.out; rw [HG.out, hups] at h1
            exact Hr.growL_take h1))
           have k0 := cell_box (HC.out w5 HW5.out).2 0; have k1 := cell_box (HC.out w5 HW5.out).2 1; have f0 := Ow.fz_blk (HC.out w5 HW5.out).2 0; have f1 := Ow.fz_blk (HC.out w5 HW5.out).2 1; have HPt := hide ((Hr.two_put (HC.out w5 HW5.out).2 (.slice none 0 0) (.slice none 0 0)).2.2 w.heap.size (by omega))
           simp only [hups, Option.isSome_none]; clear hups HST; go_wp2_with fail; refine bodyPost_ret (v := .tuple #[.agg #[.slice none 0 0, .slice none 0 0], .int .i64 5]) (by simp [results, Tryz.results24, go_sem, *]) rfl ?_
           rw [HE.out]; exact ⟨⟨_, _, _, _, _, _, rfl, fun h => absurd h (by decide)⟩, (HB0.out.trans (HW5.out.mono HB0.out.size)).trans HPt.out⟩
         | some u =>
           have HG' : Hid (Hr.growL l (l.take (k + 1)) = some (r ++ [u])) := hide (by rw [HST.out, HG.out, hups])
           simp only [hups, Option.isSome_some, Option.getD_some] at HO5 ⊢; clear hups HST HG; have f1 := Ow.fz_blk HT5.out 1; have HA5 := hide ((Below.refl w5.heap.size w5).alloc (Nat.le_refl _) (.cells #[.slice a5 u.length n5] 102)); have HUA : Hid (Ow.OwnX (w5.alloc (.cells #[.slice a5 u.length n5] 102)) w0.heap.size 102 1 (Hr.UpO (w5.alloc (.cells #[.slice a5 u.length n5] 102)) w0.heap.size) (.slice ua r.length uc) r) := hide ((HUr.out.on HB5.out fun _ _ h => h.on HB5.out (Nat.le_refl _)).on HA5.out fun _ _ h => h.on HA5.out (Nat.le_refl _)); have HRA : Hid (RowX (w5.alloc (.cells #[.slice a5 u.length n5] 102)) 1 (Hr.UpO (w5.alloc (.cells #[.slice a5 u.length n5] 102)) w0.heap.size) (.slice (some ⟨w5.heap.size, 0, none⟩) 1 1) [u]) := hide (Hr.row_one (heap_alloc_new w5 _) ⟨_, rfl, (HO5.out.on HA5.out fun _ _ h => h).low HBr.out.size fun _ _ h => h⟩); have HTA := hide ((HA5.out.block tb (Ow.lt_of_blk HT5.out)).trans HT5.out); have HLA := hide ((HAr.out.on HB5.out fun _ _ h => h).on HA5.out fun _ _ h => h); have HWA := hide (HW5.out.alloc HW5.out.size (.cells #[.slice a5 u.length n5] 102)); clear HUr HAr HTr HO5 q0 q1
           go_wp2_with (at_builtin; refine Ow.wpList_app rfl (.tmp 43) (.tmp 45) 91 rfl Tryz.underlying91 hj hj0 hj1 hj2 (by decide) Hr.shp_upo rfl HUA.out rfl HRA.out ?c1 (by decide) HWA.out.size ?_)
           case c1 => have := HRL.out; simp; omega
           · intro v' w10 hown hgrow
             obtain ⟨xa, xc, hv'⟩ := hown.shape; obtain ⟨nr, hnr⟩ : ∃ q, q = (r ++ [u]).length := ⟨_, rfl⟩; rw [<- hnr] at hv'; clear hnr; subst hv'; have hkx := Ow.kx_grown HUA.out hgrow; have hb10 := Ow.bel_grown HUA.out HWA.out.size hgrow; have HB10 := hide (HWA.out.trans hb10); have HT10 := hide (hkx.blk _ _ _ _ HTA.out (by decide))
             have HL10' := hide (HLA.out.kx hkx (by decide) fun _ _ h => h)
             have HU10 : Hid (Ow.OwnX w10 w0.heap.size 102 1 (Hr.UpO w10 w0.heap.size) (.slice xa nr xc) (r ++ [u])) := hide (hown.low (Nat.le_refl _) fun _ _ h => h.kx hkx (by decide))
             have t0 := cell_box HT10.out 0; have t1 := cell_box HT10.out 1; have fz1 := Ow.fz_blk HT10.out 1; clear hown hgrow hkx hb10 HUA HRA HWA HTA HLA s0 s1 f1 HT5 HB5 HW5; go_wp2_with fail; have hP := Ow.blk_put HT10.out 1  (.slice xa nr xc); have hK2 : Ow.Kx 93 w10 (w10.setCell ⟨tb, 1, none⟩ (.slice xa nr xc)) := Ow.Kx.set ⟨_, _, HT10.out⟩ 1  (.slice xa nr xc); have HBz := hide (HB10.out.trans ((Below.refl _ _).setCell (p := ⟨tb, 1, none⟩) htb (.slice xa nr xc))); have HTz : Hid ((w10.setCell ⟨tb, 1, none⟩ (.slice xa nr xc)).heap[tb]? = some (.cells #[.slice (some ⟨g1, o1, none⟩) m n6, .slice xa nr xc] 93 (0, 0))) := hide hP; have HLz := hide (HL10'.out.kx hK2 (by decide) fun _ _ h => h)
             have HUz : Hid (Ow.OwnX (w10.setCell ⟨tb, 1, none⟩ (.slice xa nr xc)) w0.heap.size 102 1 (Hr.UpO (w10.setCell ⟨tb, 1, none⟩ (.slice xa nr xc)) w0.heap.size) (.slice xa nr xc) (r ++ [u])) := hide (HU10.out.kx hK2 (by decide) fun _ _ h => h.kx hK2 (by decide))
             go_roundw
             case rel => first | exact ⟨k + 1, r ++ [u], .slice xa nr xc, by omega, by go_num, HBz, HTz, HLz, HUz, HG', hide (by have := HRL.out; simp; omega)⟩ | ((repeat apply Exists.intro); exact ⟨⟨k + 1, r ++ [u], .slice xa nr xc, by omega, by go_num, HBz, HTz, HLz, HUz, HG', hide (by have := HRL.out; simp; omega)⟩, rfl⟩)
             case measure => simp [intOf]; omega
       · have hG : Hr.growL l l = some r := by have := HG.out; rwa [List.take_of_length_le (by rw [<- HM.out]; omega)] at this
         have hnl : ¬ ((k : Int) < (m : Int)) := by omega
         have hUps : Hr.UpsX wr m (.slice ua r.length uc) r := ⟨HUr.out.row Hr.shp_upo fun _ _ h => h.x, by rw [Hr.growL_len hG, <- HM.out], fun u hu k hk => by have := Hr.growL_lt hG u hu k hk; rw [<- HM.out] at this; exact this, Hr.grow_few hG HFew.out, by omega⟩
         have HUP := hide hUps; have HGF := hide hG; have HRg := hide (ring_any m a6 n6 r _ wr hUps); clear hG hUps HG HRL; go_wp2_with fail; refine HRg.out.mono ?_; rintro e w5 ⟨hy, hb5⟩; have HW5 := hide (HBr.out.trans (hb5.mono HBr.out.size)); have HA5 := hide (HAr.out.on hb5 fun _ _ h => h); have HU5 := hide (HUr.out.on hb5 fun _ _ h => h.on hb5 (Nat.le_refl _)); have HT5 := hide ((hb5.block tb htl).trans HTr.out); have s0 := cell_box HT5.out 0; have s1 := cell_box HT5.out 1; have k0 := cell_box (HC.out w5 HW5.out).2 0; have k1 := cell_box (HC.out w5 HW5.out).2 1; have f0 := Ow.fz_blk (HC.out w5 HW5.out).2 0; have f1 := Ow.fz_blk (HC.out w5 HW5.out).2 1; clear hb5 q0 q1 HRg HRow HTr HUr HAr; by_cases hr : Hr.Ring r
         · have HE : Hid (Hr.errL cs = 7) := hide (Hr.err_ring HPB.out (by rw [<- HLL.out]; exact HON.out) (by rw [<- HLL.out]; exact HGF.out) hr)
           have hy := hy.t hr; subst hy; have HPt := hide ((Hr.two_put (HC.out w5 HW5.out).2 (.slice none 0 0) (.slice none 0 0)).2.2 w.heap.size (by omega))
           go_wp2_with fail; refine bodyPost_ret (v := .tuple #[.agg #[.slice none 0 0, .slice none 0 0], .int .i64 7]) (by simp [results, Tryz.results24, go_sem, *]) rfl ?_
           rw [HE.out]; exact ⟨⟨_, _, _, _, _, _, rfl, fun h => absurd h (by decide)⟩, (HB0.out.trans (HW5.out.mono HB0.out.size)).trans HPt.out⟩
         · have HE : Hid (Hr.errL cs = 0) := hide (Hr.err_ok HPB.out (by rw [<- HLL.out]; exact HON.out) (by rw [<- HLL.out]; exact HGF.out) hr)
           have hy := hy.f hr; subst hy; have HPt := hide (Hr.two_put (HC.out w5 HW5.out).2 (.slice a6 m n6) (.slice ua r.length uc)); have HBz := hide ((HB0.out.trans (HW5.out.mono HB0.out.size)).trans (HPt.out.2.2 w.heap.size (by omega)))
           go_wp2_with fail; refine bodyPost_ret (v := .tuple #[.agg #[.slice a6 m n6, .slice ua r.length uc], .int .i64 0]) (by simp [results, Tryz.results24, go_sem, *]) rfl ?_
           rw [HE.out]; refine ⟨⟨_, _, _, _, _, _, rfl, fun _ => ⟨r, ?_, ?_, ?_, HUP.out.few, ?_⟩⟩, HBz.out⟩
           · rw [<- HLL.out]
             exact (HA5.out.kx HPt.out.2.1 (by decide) fun _ _ h => h).low (Nat.le_trans HWP.out.size HB0.out.size) fun _ _ h => h
           · rw [<- HLL.out]; exact HGF.out
           · exact (HU5.out.kx HPt.out.2.1 (by decide) fun _ _ h => (h.kx HPt.out.2.1 (by decide)).on (Below.refl _ _) (Nat.le_trans HWP.out.size HB0.out.size)).low (Nat.le_trans HWP.out.size HB0.out.size) fun _ _ h => h
           · rw [<- HLL.out, <- HM.out]; exact HUP.out.top
   have HCUT := hide hcut; clear hcut hK; have c0 := cell_box (HC.out w1 HB1.out).1 0; have HD : Hid (Below w1.heap.size w1 w1.drew) := hide (Below.drew (Below.refl _ _)); obtain ⟨j0, hj, hj0, hj1, hj2⟩ := Ow.info_of Ow.i_cls; have HB1d := hide (HB1.out.trans (HD.out.mono HB1.out.size)); have HBw := hide (HB0.out.trans (HB1d.out.mono HB0.out.size)); have c1a := cell_box (HC.out (w1.drew.alloc (.cells #[.slice none 0 0, .slice none 0 0] 93)) (HB1d.out.alloc HB1d.out.size _)).1 0; have hw1 : w.heap.size < w1.heap.size := by have := Ow.lt_of_blk (HC.out w1 HB1.out).1; omega
   go_region_law (first
    | (refine Ow.step_app rfl (.tmp 16) (.tmp 18) 37 rfl Tryz.underlying37 hj hj0 hj1 hj2 (by decide) (Hr.shp_clsx wp) (by first | rfl | simp [Act.eval, Act.put]) (by first | exact HO5.out | exact HO5.out.on ((Below.refl _ _).alloc (Nat.le_refl _) _) fun _ _ h => h) (by first | rfl | simp [Act.eval, Act.put]) (by first | exact HP5.out _ (Below.refl _ _) | exact HP5.out _ ((Below.refl _ _).alloc (Nat.le_refl _) _)) (by exact HLn.out) (by decide) (by first | exact HB5.out.size | exact (HB5.out.alloc HB5.out.size _).size) ?_
       intro v6 w6 ho6 hg6; have HO6 := hide ho6; have HG6 := hide hg6
       first
        | (have HTB : Hid (w6.heap[w1.heap.size]? = some (.cells #[.slice none 0 0, .slice none 0 0] 93 (0, 0))) := hide ((Ow.kx_grown HO5.out hg6).blk _ _ _ _ ((HX5.out.block w1.heap.size (by simp)).trans (heap_alloc_new w1.drew _)) (by decide))
           have qa0 := cell_box HTB.out 0; have qa1 := cell_box HTB.out 1; have qf0 := Ow.fz_blk HTB.out 0
           have qf1 := Ow.fz_blk HTB.out 1)
        | (have HTB : Hid (w6.heap[w5.heap.size]? = some (.cells #[.slice none 0 0, .slice none 0 0] 93 (0, 0))) := hide ((Ow.kx_grown (HO5.out.on ((Below.refl _ _).alloc (Nat.le_refl _) (.cells #[.slice none 0 0, .slice none 0 0] 93)) fun _ _ h => h) hg6).blk _ _ _ _ (heap_alloc_new w5 _) (by decide))
           have qa0 := cell_box HTB.out 0; have qa1 := cell_box HTB.out 1; have qf0 := Ow.fz_blk HTB.out 0
           have qf1 := Ow.fz_blk HTB.out 1)
        | skip
       have HB6 : Hid (Below w1.heap.size w1 w6) := hide (by first | exact HB5.out.trans (Ow.bel_grown HO5.out HB5.out.size hg6) | exact (HB5.out.alloc HB5.out.size _).trans (Ow.bel_grown (HO5.out.on ((Below.refl _ _).alloc (Nat.le_refl _) _) fun _ _ h => h) (HB5.out.alloc HB5.out.size _).size hg6))
       obtain ⟨a6, n6, rfl⟩ := ho6.shape
       clear ho6 hg6)
    | (go_simp
       refine (standing_any _).mono ?_; rintro e w5 ⟨v5, rfl, ho5, hb5⟩; have HX5 := hide hb5; have HB5 : Hid (Below w1.heap.size w1 w5) := hide (by first | exact HD.out.trans (hb5.mono HD.out.size) | exact (HD.out.alloc HD.out.size _).trans (hb5.mono (HD.out.alloc HD.out.size _).size))
       have HO5 : Hid (Ow.OwnX w5 w1.heap.size 36 6 (ClsX wp) v5 Hr.base) := hide (ho5.low (by first | exact HD.out.size | exact (HD.out.alloc HD.out.size _).size) fun _ _ h => h.x wp)
       have HP5 : Hid (∀ wx, Below w5.heap.size w5 wx -> RowX wx 6 (ClsX wp) (.slice pa n pc) cs) := hide fun wx hb => HP.out.1.on (HWP.out.trans ((HB0.out.trans ((HB1.out.trans (HB5.out.mono HB1.out.size)).mono HB0.out.size) |>.trans (hb.mono (Nat.le_trans HB0.out.size (Nat.le_trans HB1.out.size HB5.out.size)))).mono HWP.out.size)) fun _ _ h => h
       have HLn : Hid (Hr.base.length + cs.length <= 1000000) := hide (by have := HN.out; have := HL10.out; show 8 + cs.length <= 1000000; omega)
       have c5 := cell_box (HC.out w5 (HB1.out.trans (HB5.out.mono HB1.out.size))).1 0; have c5a := cell_box (HC.out (w5.alloc (.cells #[.slice none 0 0, .slice none 0 0] 93)) ((HB1.out.trans (HB5.out.mono HB1.out.size)).alloc (Nat.le_trans HB1.out.size HB5.out.size) _)).1 0; obtain ⟨a5, n5, rfl⟩ := ho5.shape
       clear ho5 hb5))
   all_goals
    show K _ _; refine HCUT.out _ _ _ _ _ _ _ _ _ _ _ _ _ _ _ _ _ _ _ _ _ _ _ _ _ _ _ _ _ _ _ _ _ _ _ _ _ _ _ _ _ _ _ _ _ _ _ _ _ _ _ ⟨a6, n6, ?_, ?_, ?_, ?_⟩
    · first
       | exact hide ((HB1.out.trans (HB6.out.mono HB1.out.size)).trans ((Hr.two_put HTB.out _ _).2.2 w0.heap.size (by first | exact HB1.out.size | exact Nat.le_trans HB1.out.size HB5.out.size)))
       | exact hide ((HB1.out.trans (HB6.out.mono HB1.out.size)).alloc (Nat.le_trans HB1.out.size HB6.out.size) _)
    · first
       | exact HB1.out.size
       | exact Nat.le_trans HB1.out.size HB5.out.size
       | exact Nat.le_trans HB1.out.size HB6.out.size
    · rw [Hr.all_len]
      first
       | exact hide (Hr.two_put HTB.out _ _).1
       | exact hide (heap_alloc_new w6 _)
    · rw [Hr.all_len]
      have HO7 := HO6.out; rw [List.length_append] at HO7
      first
       | exact hide ((HO7.low HB1.out.size fun _ _ h => h).kx (Hr.two_put HTB.out _ _).2.1 (by decide) fun _ _ h => h)
       | exact hide ((HO7.low HB1.out.size fun _ _ h => h).on ((Below.refl _ _).alloc (Nat.le_refl _) _) fun _ _ h => h)
 · have hpf : Pp.progB cs = false := by simpa using hpb
   have HE : Hid (Hr.errL cs = 4) := hide (by unfold Hr.errL; rw [if_neg hpb])
   simp only [hpf, Bool.false_eq_true, if_false]; have k0 := cell_box (HC.out w1 HB1.out).2 0; have k1 := cell_box (HC.out w1 HB1.out).2 1; have f0 := Ow.fz_blk (HC.out w1 HB1.out).2 0; have f1 := Ow.fz_blk (HC.out w1 HB1.out).2 1; go_wp2_with fail; refine bodyPost_ret (v := .tuple #[.agg #[.slice none 0 0, .slice none 0 0], .int .i64 4]) (by simp [results, Tryz.results24, go_sem, *]) rfl ?_
   rw [HE.out]; exact ⟨⟨_, _, _, _, _, _, rfl, fun h => absurd h (by decide)⟩, (HB0.out.trans (HB1.out.mono HB0.out.size)).trans ((Hr.two_put (HC.out w1 HB1.out).2 (.slice none 0 0) (.slice none 0 0)).2.2 w.heap.size (by omega))⟩
namespace Hr
def lookL (cs : List Pp.XCls) (nm : Pp.Bs) : Option Nat := if errL cs = 0 then placeL (allL cs) nm else none
end Hr
theorem hCheck_any (cs : List Pp.XCls) (v : Value) (w : World) (ht : TabS w) (h : ProgX w v cs) :
 Calls Tryz.prog 15 #[.agg #[v]] w fun e w' => e = .returned (.int .i64 (Hr.errL cs)) /\ Below w.heap.size w w' := by
 have HG := hide (fun wx (hb : Below w.heap.size w wx) => grow_any cs v w wx (ht.below hb) hb h); obtain ⟨pa, pc, rfl, _⟩ := h.1.len; clear h ht; generalize cs.length = n at *
 have HB0 := hide ((Below.refl w.heap.size w).alloc (Nat.le_refl _) (.cells #[.slice pa n pc] 39)); go_enter Tryz.func15, Tryz.ntmps15; go_wp2_with fail; refine (HG.out _ HB0.out).mono ?_; rintro e w1 ⟨⟨a1, n1, c1, a2, n2, c2, rfl, _⟩, hb1⟩; have HB1 := hide (HB0.out.trans (hb1.mono HB0.out.size)); clear hb1 HG HB0; go_wp2_with fail; go_ret; exact ⟨rfl, HB1.out.alloc HB1.out.size _⟩
namespace Hr
end Hr
namespace Hr
structure Climb (cs : List Pp.XCls) (up : List (List Nat)) (p0 p : Nat) (vs : List Nat) : Prop where
 nod : (p :: vs).Nodup
 lt : ∀ v ∈ p :: vs, v < (allL cs).length
 far : ∀ v ∈ vs, Far up v p
 fro : p = p0 \/ Far up p0 p
theorem Climb.few {cs : List Pp.XCls} {up : List (List Nat)} {p0 p : Nat} {vs : List Nat} (h : Climb cs up p0 p vs) : vs.length < (allL cs).length := by
 have key : ∀ (l : List Nat), l.Nodup -> ∀ n, (∀ v ∈ l, v < n) -> l.length <= n := by
  intro l hn n hl; have := List.Nodup.length_le_of_subset hn (l₂ := List.range n) (fun v hv => List.mem_range.2 (hl v hv))
  simpa using this
 have := key _ h.nod _ h.lt; simp at this; omega
theorem Climb.start {cs : List Pp.XCls} {up : List (List Nat)} {p : Nat} (h : p < (allL cs).length) : Climb cs up p p [] :=
 ⟨by simp, by simpa using h, by simp, .inl rfl⟩
theorem Climb.step {cs : List Pp.XCls} {up : List (List Nat)} {p0 p q : Nat} {vs : List Nat} (hr : ¬ Ring up) (h : Climb cs up p0 p vs) (s : Step up p q) (hq : q < (allL cs).length) : Climb cs up p0 q (p :: vs) := by
 have hf : ∀ v ∈ p :: vs, Far up v q := by
  intro v hv
  rcases List.mem_cons.1 hv with rfl | hv
  · exact .one s
  · exact .more (h.far v hv) s
 refine ⟨List.nodup_cons.2 ⟨fun hm => hr ⟨q, hf q hm⟩, h.nod⟩, ?_, hf, ?_⟩
 · intro v hv
   rcases List.mem_cons.1 hv with rfl | hv
   · exact hq
   · exact h.lt v hv
 · rcases h.fro with rfl | h1
   · exact .inr (.one s)
   · exact .inr (.more h1 s)
theorem super_step {cs : List Pp.XCls} {up : List (List Nat)} (hg : growL (allL cs) (allL cs) = some up) {p : Nat} {c : Pp.XCls} {s : Pp.Bs} (hc : (allL cs)[p]? = some c) (hs : superL c = some s) : ∃ q d, placeL (allL cs) s = some q /\ (allL cs)[q]? = some d /\ d.name = s /\ d.iface = false /\ Step up p q /\ q < (allL cs).length := by
 obtain ⟨u, hu, huc⟩ := growL_at hg hc; unfold upsL supL at huc; rw [hs] at huc; simp only at huc; cases hu1 : upL (allL cs) false s with
 | none => rw [hu1] at huc; cases huc
 | some q =>
   rw [hu1] at huc; simp only [Option.map_some] at huc; cases hi : ifsL (allL cs) c.ifaces with
   | none => rw [hi] at huc; cases huc
   | some b =>
     rw [hi] at huc; cases huc; obtain ⟨h1, h2, d, h3, h4⟩ := upL_lt hu1; obtain ⟨d', h5, h6, _⟩ := placeL_lt h2; rw [h3] at h5; cases h5; exact ⟨q, d, h2, h3, h6, h4, ⟨_, hu, by simp⟩, h1⟩
end Hr
namespace Hr
open Pp
def aboveL (c : XCls) : List Bs := (superL c).toList ++ c.ifaces
def NStep (l : List XCls) (x y : Bs) : Prop := ∃ k c, placeL l x = some k /\ l[k]? = some c /\ y ∈ aboveL c
def NFarN (l : List XCls) : Nat -> Bs -> Bs -> Prop
 | 0, x, z => x = z
 | n + 1, x, z => ∃ y, NFarN l n x y /\ NStep l y z
def NFar (l : List XCls) (x z : Bs) : Prop := ∃ n, NFarN l n x z
theorem NFar.refl {l : List XCls} (x : Bs) : NFar l x x := ⟨0, rfl⟩
theorem NFar.more {l : List XCls} {x y z : Bs} (h : NFar l x y) (s : NStep l y z) : NFar l x z := by
 obtain ⟨n, h⟩ := h; exact ⟨n + 1, y, h, s⟩
theorem NFar.ind {l : List XCls} {x : Bs} {C : Bs -> Prop} (refl : C x) (more : ∀ {y z : Bs}, NFar l x y -> NStep l y z -> C y -> C z) {z : Bs} (h : NFar l x z) : C z := by
 obtain ⟨n, h⟩ := h
 induction n generalizing z with
 | zero => cases h; exact refl
 | succ n ih => obtain ⟨m, h1, h2⟩ := h; exact more ⟨n, h1⟩ h2 (ih h1)
theorem nodup_len {α : Type} [DecidableEq α] : ∀ {l m : List α}, l.Nodup -> (∀ x ∈ l, x ∈ m) -> l.length <= m.length
 | [], _, _, _ => Nat.zero_le _
 | a :: l, m, hn, hs => by
   have ha : a ∈ m := hs a (by simp)
   have hn' := List.nodup_cons.1 hn
   have := nodup_len (l := l) (m := m.erase a) hn'.2 (fun x hx => by
    have hxa : x ≠ a := fun e => hn'.1 (e ▸ hx)
    exact (List.mem_erase_of_ne hxa).2 (hs x (by simp [hx])))
   rw [List.length_erase_of_mem ha] at this; have hp : 0 < m.length := List.length_pos_of_mem ha; simp; omega
def mostL (l : List XCls) : Nat := 1 + (l.flatMap aboveL).length
structure RInv (l : List XCls) (n : Bs) (out : List Bs) (i : Nat) : Prop where
 here : n ∈ out
 far : ∀ x ∈ out, NFar l n x
 fin : ∀ (j : Nat) (x : Bs), j < i -> out[j]? = some x -> ∀ y, NStep l x y -> y ∈ out
 nod : out.Nodup
 org : ∀ x ∈ out, x = n \/ x ∈ l.flatMap aboveL
 low : i <= out.length
structure RMid (l : List XCls) (n : Bs) (out : List Bs) (i : Nat) (x : Bs) (c : XCls) (k : Nat) : Prop where
 inv : RInv l n out i
 at' : out[i]? = some x
 don : ∀ y ∈ (aboveL c).take k, y ∈ out
theorem RInv.few {l : List XCls} {n : Bs} {out : List Bs} {i : Nat} (h : RInv l n out i) : out.length <= mostL l := by
 have := nodup_len (m := n :: l.flatMap aboveL) h.nod (fun x hx => by
  rcases h.org x hx with rfl | h1
  · simp
  · exact List.mem_cons_of_mem _ h1)
 unfold mostL; simp at this ⊢; omega
theorem RInv.start (l : List XCls) (n : Bs) : RInv l n [n] 0 where
 here := by simp
 far := by intro x hx; simp at hx; subst hx; exact .refl _
 fin := fun j x hj => absurd hj (Nat.not_lt_zero _)
 nod := by simp
 org := by intro x hx; simp at hx; exact .inl hx
 low := by simp
theorem RInv.stop {l : List XCls} {n : Bs} {out : List Bs} (h : RInv l n out out.length) (x : Bs) : x ∈ out ↔ NFar l n x := by
 refine ⟨h.far x, fun hf => ?_⟩; refine NFar.ind (C := fun x => x ∈ out) h.here (fun _ s ih => ?_) hf; obtain ⟨j, hj⟩ := List.getElem?_of_mem ih; exact h.fin j _ (List.getElem?_eq_some_iff.1 hj).1 hj _ s
theorem RMid.stop {l : List XCls} {n : Bs} {out : List Bs} {i k q : Nat} {x : Bs} {c : XCls} (h : RMid l n out i x c k) (hp : placeL l x = some q) (hc : l[q]? = some c) (hk : (aboveL c).length <= k) : RInv l n out (i + 1) where
 here := h.inv.here
 far := h.inv.far
 fin := by
  intro j y hj hy z hz
  rcases Nat.lt_or_eq_of_le (Nat.le_of_lt_succ hj) with h1 | rfl
  · exact h.inv.fin j y h1 hy z hz
  · rw [h.at'] at hy; cases hy
    obtain ⟨k', c', h1, h2, h3⟩ := hz; rw [hp] at h1; cases h1; rw [hc] at h2; cases h2; exact h.don z (by rw [List.take_of_length_le hk]; exact h3)
 nod := h.inv.nod
 org := h.inv.org
 low := (List.getElem?_eq_some_iff.1 h.at').1
theorem RMid.skip {l : List XCls} {n : Bs} {out : List Bs} {i k : Nat} {x y : Bs} {c : XCls} (h : RMid l n out i x c k) (hy : (aboveL c)[k]? = some y) (hm : y ∈ out) : RMid l n out i x c (k + 1) :=
 ⟨h.inv, h.at', by
   intro z hz; rw [List.take_add_one, hy] at hz
   rcases List.mem_append.1 hz with hz | hz
   · exact h.don z hz
   · simp at hz; subst hz; exact hm⟩
theorem RMid.push {l : List XCls} {n : Bs} {out : List Bs} {i k q : Nat} {x y : Bs} {c : XCls} (h : RMid l n out i x c k) (hp : placeL l x = some q) (hc : l[q]? = some c) (hy : (aboveL c)[k]? = some y) (hm : y ∉ out) : RMid l n (out ++ [y]) i x c (k + 1) := by
 have hil := (List.getElem?_eq_some_iff.1 h.at').1; have hya : y ∈ aboveL c := List.mem_of_getElem? hy; have hst : NStep l x y := ⟨q, c, hp, hc, hya⟩; have hxo : x ∈ out := List.mem_of_getElem? h.at'; refine ⟨⟨by simp [h.inv.here], ?_, ?_, ?_, ?_, ?_⟩, ?_, ?_⟩
 · intro z hz
   rcases List.mem_append.1 hz with hz | hz
   · exact h.inv.far z hz
   · simp at hz; subst hz; exact .more (h.inv.far x hxo) hst
 · intro j z hj hz u hu
   rw [List.getElem?_append_left (by omega)] at hz
   exact List.mem_append_left _ (h.inv.fin j z hj hz u hu)
 · rw [List.nodup_append]
   refine ⟨h.inv.nod, by simp, fun a ha b hb e => ?_⟩
   simp at hb; subst hb; subst e; exact hm ha
 · intro z hz
   rcases List.mem_append.1 hz with hz | hz
   · exact h.inv.org z hz
   · simp at hz; subst hz; exact .inr (List.mem_flatMap.2 ⟨c, List.mem_of_getElem? hc, hya⟩)
 · simp; omega
 · rw [List.getElem?_append_left hil]; exact h.at'
 · intro z hz
   rw [List.take_add_one, hy] at hz
   rcases List.mem_append.1 hz with hz | hz
   · exact List.mem_append_left _ (h.don z hz)
   · simp at hz; subst hz; simp
theorem ifs_names {l : List XCls} : ∀ {ns : List Bs} {u : List Nat}, ifsL l ns = some u -> (∀ y ∈ ns, ∃ j ∈ u, placeL l y = some j) /\ (∀ j ∈ u, ∃ y ∈ ns, placeL l y = some j)
 | [], u, h => by simp [ifsL] at h; subst h; simp
 | n :: ns, u, h => by
   simp only [ifsL] at h; cases hu : upL l true n with
   | none => rw [hu] at h; cases h
   | some k =>
     rw [hu] at h; cases hr : ifsL l ns with
     | none => rw [hr] at h; cases h
     | some r =>
       rw [hr] at h; cases h; obtain ⟨h1, h2⟩ := ifs_names hr; have hk := (upL_lt hu).2.1; refine ⟨fun y hy => ?_, fun j hj => ?_⟩
       · rcases List.mem_cons.1 hy with rfl | hy
         · exact ⟨k, by simp, hk⟩
         · obtain ⟨j, hj, e⟩ := h1 y hy; exact ⟨j, by simp [hj], e⟩
       · rcases List.mem_cons.1 hj with rfl | hj
         · exact ⟨n, by simp, hk⟩
         · obtain ⟨y, hy, e⟩ := h2 j hj; exact ⟨y, by simp [hy], e⟩
theorem ups_names {l : List XCls} {c : XCls} {u : List Nat} (h : upsL l c = some u) : (∀ y ∈ aboveL c, ∃ j ∈ u, placeL l y = some j) /\ (∀ j ∈ u, ∃ y ∈ aboveL c, placeL l y = some j) := by
 unfold upsL at h; cases hs : supL l c with
 | none => rw [hs] at h; cases h
 | some a =>
   rw [hs] at h; cases hi : ifsL l c.ifaces with
   | none => rw [hi] at h; cases h
   | some b =>
     rw [hi] at h; cases h; obtain ⟨h1, h2⟩ := ifs_names hi; unfold supL at hs; unfold aboveL; cases hsu : superL c with
     | none =>
       rw [hsu] at hs; cases hs
       simpa using ⟨h1, h2⟩
     | some n =>
       rw [hsu] at hs; cases hu : upL l false n with
       | none => simp only [hu] at hs; cases hs
       | some k =>
         simp only [hu] at hs; cases hs; have hk := (upL_lt hu).2.1; refine ⟨fun y hy => ?_, fun j hj => ?_⟩
         · simp at hy
           rcases hy with rfl | hy
           · exact ⟨k, by simp, hk⟩
           · obtain ⟨j, hj, e⟩ := h1 y hy; exact ⟨j, by simp [hj], e⟩
         · simp at hj
           rcases hj with rfl | hj
           · exact ⟨n, by simp, hk⟩
           · obtain ⟨y, hy, e⟩ := h2 j hj; exact ⟨y, by simp [hy], e⟩
end Hr
end Go.Proofs.YtjlappamkfjlkabGreatDoor

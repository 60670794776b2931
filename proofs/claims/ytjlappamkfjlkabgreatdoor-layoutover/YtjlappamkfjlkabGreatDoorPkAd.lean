/- What the laws of this seat lean on: 2 texts. -/
import Derived.Test.YtjlappamkfjlkabGreatDoorPkAc
set_option maxRecDepth 100000
set_option maxHeartbeats 64000000
set_option linter.unusedVariables false
set_option linter.unusedSimpArgs false
namespace Go.Proofs.YtjlappamkfjlkabGreatDoor
open Go.RowKit
structure Net.Small (N : Net) : Prop where
 flds : ∀ b, N.T b -> (N.cl b).fields.length <= 100
 mths : ∀ b, N.T b -> (N.cl b).methods.length <= 100
 ifs : ∀ b, N.T b -> (N.ifs b).length <= 1000
 sl : ∀ b, N.T b -> (N.sl b).length <= 100000
 mt : ∀ b, N.T b -> (N.mt b).length <= 100000
 ab : ∀ b, N.T b -> (N.ab b).length <= 400
 ab0 : ∀ b l, N.T b -> (∀ i ∈ l, i ∈ N.ifs b) -> (N.ab0 b l).length <= 400
theorem moved_own {α : Type} {P : α -> List Value -> Prop} {w w' : World} {base e sz : Nat} {v v' : Value} {l : List α} (h : Ow.OwnX w' base e sz P v' l) (hb : w.heap.size <= base) (hv : v.ownBlock = none) : Moved w v v' := by
 obtain ⟨nw, _, hown⟩ := h
 rcases hown.2 with ⟨rfl, _⟩ | ⟨g, cap, cur, rfl, hg, _⟩
 · exact .inl hv.symm
 · exact .inr ⟨g, Nat.le_trans hb hg, rfl⟩
theorem Moved.refl (w : World) (v : Value) : Moved w v v := .inl rfl
theorem below_fx {w0 w w' : World} {S : Nat -> Prop} (hB : Below w0.heap.size w0 w) (hf : Fx S w w') (hS : ∀ k, S k -> w0.heap.size <= k) : Below w0.heap.size w0 w' :=
 hB.trans ⟨hf.bel.os, hf.bel.tape, hf.bel.output, hf.bel.size, fun k hk => hf.blk k (Nat.lt_of_lt_of_le hk hB.size) fun h => absurd (hS k h) (by omega)⟩
theorem part_zero {N : Net} {w0 w : World} {D A : Nat -> Prop} {x : Nat} {cs : Array Value} (hI : Inv N w0 w D A (N.rk x)) (hb : w.heap[x]? = some (.cells cs 84 (0, 0))) (h14 : cs.size = 14) (hbare : Bare cs) :
 Part N w0 w w D A x cs cs (.slice none 0 0) (.slice none 0 0) (.slice none 0 0) [] [] [] :=
 { blk := hb, size := h14, same := fun _ _ => rfl, c11 := hbare.1, c12 := hbare.2.1, c13 := hbare.2.2, slots := Ow.OwnX.nil _ _ _ _ _, mths := Ow.OwnX.nil _ _ _ _ _, above := Ow.OwnX.nil _ _ _ _ _, fx := Fx.refl _ _,
   inv := fun b hb hr => (hI b hb hr).more fun k _ h => by
    rcases h with h | h | h | h
    · exact h
    · cases h
    · cases h
    · cases h }
theorem Part.slot {N : Net} {w0 w wr w1 : World} {D A : Nat -> Prop} {x : Nat} {cs c : Array Value} {vs vm va v' : Value} {sl sl' : List Pp.Slt} {ml : List (Pp.Bs × Pp.XMth)} {al : List Nat} (h : Part N w0 w wr D A x cs c vs vm va sl ml al) (hTx : N.T x) (hA : ∀ k, A k -> k < w.heap.size /\ ¬ N.T k) (hT : ∀ k, N.T k -> k < w.heap.size)
 (hw : Below wr.heap.size wr w1) (ho : Ow.OwnX w1 wr.heap.size 66 4 SltX v' sl') (hv : vs.ownBlock = none) : ∃ c', Part N w0 w (w1.setCell ⟨x, 11, none⟩ v') D A x cs c' v' vm va sl' ml al /\ ∀ k, k < 11 -> c'[k]? = c[k]? := by
 have h1 := (hw.block x (Ow.lt_of_blk h.blk)).trans h.blk; have hsz := h.fx.size
 refine ⟨c.setIfInBounds 11 v', h.next (S := fun k => k = x) hTx hA hT ((Fx.below hw).trans (Fx.set (S := fun k => k = x) rfl _)) (fun k _ h => .inl h) (put_blk h1 _) (by simp [h.size]) (fun k hk => set_at _ (by omega)) (set_self _ (by rw [h.size]; decide)) ((set_at _ (by decide)).trans h.c12) ((set_at _ (by decide)).trans h.c13)
  ((ho.low hsz fun _ _ h => h).putb h1 (by decide)) ((h.mths.on hw fun _ _ h => h).putb h1 (by decide)) ((h.above.on hw fun _ _ h => h).putb h1 (by decide)) (moved_own ho (Nat.le_refl _) hv).came (Moved.refl _ _) (Moved.refl _ _), fun k hk => set_at _ (by omega)⟩
theorem Part.mth {N : Net} {w0 w wr wB w5 : World} {D A : Nat -> Prop} {x : Nat} {cs c : Array Value} {vs vm va v' : Value} {sl : List Pp.Slt} {ml ml' : List (Pp.Bs × Pp.XMth)} {al : List Nat} (h : Part N w0 w wr D A x cs c vs vm va sl ml al) (hTx : N.T x) (hA : ∀ k, A k -> k < w.heap.size /\ ¬ N.T k) (hT : ∀ k, N.T k -> k < w.heap.size)
 (hw : Below wr.heap.size wr wB) (hg : wB.grownBy w5 vm.ownBlock) (ho : Ow.OwnX w5 w.heap.size 55 10 (PMt w0) v' ml') (hq : v'.ownBlock = vm.ownBlock \/ v'.ownBlock = some wB.heap.size) :
 w5.heap[x]? = some (.cells c 84 (0, 0)) /\ ∃ c', Part N w0 w (w5.setCell ⟨x, 12, none⟩ v') D A x cs c' vs v' va sl ml' al := by
 have h1 := (hw.block x (Ow.lt_of_blk h.blk)).trans h.blk; have hmB := h.mths.on hw fun _ _ h => h
 have h2 : w5.heap[x]? = some (.cells c 84 (0, 0)) := (hg.block x (Ow.lt_of_blk h1) (fun e => by
  obtain ⟨_, cc, hcc⟩ := own_lt hmB e.symm; rw [h1] at hcc
  cases hcc)).trans h1
 have hkx := Ow.kx_grown hmB hg
 refine ⟨h2, c.setIfInBounds 12 v', h.next (S := fun k => k = x \/ vm.ownBlock = some k) hTx hA hT (((Fx.below hw).trans ((Fx.grown hg).mono fun k _ h => .inr h)).trans (Fx.set (.inl rfl) _)) (fun k _ h => h.imp id fun h => .inr (.inl h)) (put_blk h2 _) (by simp [h.size]) (fun k hk => set_at _ (by omega)) ((set_at _ (by decide)).trans h.c11) (set_self _ (by rw [h.size]; decide)) ((set_at _ (by decide)).trans h.c13)
  (((h.slots.on hw fun _ _ h => h).kx hkx (by decide) fun _ _ h => h).putb h2 (by decide)) (ho.putb h2 (by decide)) (((h.above.on hw fun _ _ h => h).kx hkx (by decide) fun _ _ h => h).putb h2 (by decide)) (Moved.refl _ _).came ?_ (Moved.refl _ _)⟩
 rcases hq with h | h
 · exact .inl h
 · exact .inr ⟨_, hw.size, h⟩
theorem Part.self {N : Net} {w0 w wr : World} {D A : Nat -> Prop} {x : Nat} {cs c : Array Value} {vs vm : Value} {sl : List Pp.Slt} {ml : List (Pp.Bs × Pp.XMth)} (h : Part N w0 w wr D A x cs c vs vm (.slice none 0 0) sl ml []) (hTx : N.T x) (hA : ∀ k, A k -> k < w.heap.size /\ ¬ N.T k) (hT : ∀ k, N.T k -> k < w.heap.size) :
 ∃ c', Part N w0 w ((wr.alloc (.cells #[.pointer (some ⟨x, 0, none⟩)] 51)).setCell ⟨x, 13, none⟩ (.slice (some ⟨wr.heap.size, 0, none⟩) 1 1)) D A x cs c' vs vm (.slice (some ⟨wr.heap.size, 0, none⟩) 1 1) sl ml [x] := by
 have hw : Below wr.heap.size wr (wr.alloc (.cells #[.pointer (some ⟨x, 0, none⟩)] 51)) := (Below.refl _ _).alloc (Nat.le_refl _) _; have h1 := (hw.block x (Ow.lt_of_blk h.blk)).trans h.blk
 have ho : Ow.OwnX (wr.alloc (.cells #[.pointer (some ⟨x, 0, none⟩)] 51)) w.heap.size 51 1 PtrX (.slice (some ⟨wr.heap.size, 0, none⟩) 1 1) [x] :=
  ⟨[.pointer (some ⟨x, 0, none⟩)], Ow.Flat.one (P := PtrX) rfl, rfl, .inr ⟨wr.heap.size, 1, _, rfl, h.fx.size, heap_alloc_new wr _, Nat.le_refl _, by decide, rfl, rfl⟩⟩
 exact ⟨c.setIfInBounds 13 _, h.next (S := fun k => k = x) hTx hA hT ((Fx.below hw).trans (Fx.set (S := fun k => k = x) rfl _)) (fun k _ h => .inl h) (put_blk h1 _) (by simp [h.size]) (fun k hk => set_at _ (by omega)) ((set_at _ (by decide)).trans h.c11) ((set_at _ (by decide)).trans h.c12) (set_self _ (by rw [h.size]; decide))
  ((h.slots.on hw fun _ _ h => h).putb h1 (by decide)) ((h.mths.on hw fun _ _ h => h).putb h1 (by decide)) (ho.putb h1 (by decide)) (Moved.refl _ _).came (Moved.refl _ _) (.inr ⟨_, Nat.le_refl _, rfl⟩)⟩
theorem fill_any (N : Net) (hG : N.Good) (hN : N.Small) (w0 : World) (x : Nat) (hTx : N.T x) (hlow : ∀ y, N.T y -> N.rk y < N.rk x -> Made N w0 y) (w : World) (D A : Nat -> Prop) (cs : Array Value)
 (hI : Inv N w0 w D A (N.rk x)) (hb : w.heap[x]? = some (.cells cs 84 (0, 0))) (hself : Self N w0 w (fun k => N.T k \/ A k) cs x) (hbare : Bare cs) (hD : ¬ D x)
 (hA : ∀ k, A k -> k < w.heap.size /\ ¬ N.T k) (hT : ∀ k, N.T k -> k < w.heap.size) (hT0 : ∀ k, N.T k -> w0.heap.size <= k) (hB : Below w0.heap.size w0 w) :
 Calls Tryz.prog 31 #[.pointer (some ⟨x, 0, none⟩)] w fun e w2 => e = .returned (.tuple #[]) /\ ∃ D' : Nat -> Prop, Filled N w0 w w2 D D' A x := by
 obtain ⟨h14, ⟨ys, hcl, hys⟩, h6, vi, h7, hvi⟩ := hself; have HOwn := hide (ownSlots_any (N.cl x) ys false w (hcl.on hB) (hN.flds x hTx)); have HP0 := hide (part_zero hI hb h14 hbare); have HW0 := hide hb; obtain ⟨zi, zf, zm, rfl, z1, z2, z3, z4⟩ := hcl; have c0 := (cell_box hb 0).trans (hys 0 _ rfl); have c1 := (cell_box hb 1).trans (hys 1 _ rfl); have c2 := (cell_box hb 2).trans (hys 2 _ rfl); have c3 := (cell_box hb 3).trans (hys 3 _ rfl); have c4 := (cell_box hb 4).trans (hys 4 _ rfl); have c5 := (cell_box hb 5).trans (hys 5 _ rfl); have HRow := hide z3; obtain ⟨nm, hnm⟩ : ∃ q, q = (N.cl x).methods.length := ⟨_, rfl⟩; have HNm := hide hnm; have hnm1 : nm <= 100 := by rw [hnm]; exact hN.mths x hTx
 obtain ⟨ia, ic, hzi, _⟩ := z1.len; obtain ⟨fa, fc, hzf, _⟩ := z2.len; obtain ⟨ma, mc, hzm, _⟩ := z3.len; obtain ⟨ni, hni⟩ : ∃ q, q = (N.cl x).ifaces.length := ⟨_, rfl⟩; obtain ⟨nf, hnf⟩ : ∃ q, q = (N.cl x).fields.length := ⟨_, rfl⟩; rw [<- hni] at hzi; rw [<- hnf] at hzf; rw [<- hnm] at hzm; subst hzi hzf hzm; obtain ⟨nb, hnb⟩ : ∃ q : ByteArray, q = ⟨(N.cl x).name.toArray⟩ := ⟨_, rfl⟩; have HNb := hide hnb; obtain ⟨sb, hsb⟩ : ∃ q : ByteArray, q = ⟨(N.cl x).super.toArray⟩ := ⟨_, rfl⟩; obtain ⟨fi, hfi⟩ : ∃ q, q = (N.cl x).iface := ⟨_, rfl⟩; have HFi := hide hfi; have HCs := hide hys; have H67 := hide (And.intro h6 h7); have HVi := hide hvi; have HB := hide hB; have HA := hide hA; have HT := hide hT; have HT0 := hide hT0; have HD := hide hD; have HIn := hide hI; have HLow := hide hlow; simp only [clsXL] at HOwn; rw [<- hnb, <- hsb, <- hfi] at HOwn; rw [<- hnb] at c0; rw [<- hfi] at c1; rw [<- hsb] at c2; have hbk := Ow.lt_of_blk hb; clear hni hnf hnm hnb hsb hfi z1 z2 z3 z4 hb hys h6 h7 hvi hB hA hT hT0 hD hI h14 hbare hlow; go_enter Tryz.func31, Tryz.ntmps31; go_wp2_with fail; refine HOwn.out.mono ?_; rintro e w1 ⟨v1, rfl, ho1, hb1⟩; obtain ⟨k1, hP1, hk1⟩ := HP0.out.slot hTx HA.out HT.out hb1 ho1 rfl; have HP1 := hide hP1; have hbx := (hb1.block x hbk).trans HP0.out.blk; have c11 : w1.cell? ⟨x, 11, none⟩ = some (.slice none 0 0) := (cell_box hbx 11).trans HP0.out.c11; have z11 : w1.frozen? ⟨x, 11, none⟩ = false := Ow.fzl_blk hbx 11; obtain ⟨xa, xc, rfl⟩ := ho1.shape; obtain ⟨ns, hns⟩ : ∃ q, q = (Pp.ownL (N.cl x) false (N.cl x).fields).length := ⟨_, rfl⟩; rw [<- hns] at HP1
 have d0 : ∀ j u, (clsXL (N.cl x) (.slice ia ni ic) (.slice fa nf fc) (.slice ma nm mc))[j]? = some u -> (w1.setCell ⟨x, 11, none⟩ (.slice xa ns xc)).cell? ⟨x, j, none⟩ = some u := fun j u hj => by
  have hj6 : j < 6 := (List.getElem?_eq_some_iff.1 hj).1; exact (cell_box HP1.out.blk j).trans ((HP1.out.same j (by omega)).trans (HCs.out j u hj))
 have e5 := d0 5 _ rfl; rw [<- hns]; clear hP1 hk1 ho1 hb1 HOwn HP0 c0 c1 c2 c3 c4 c5 hbx hns d0; go_wp2_with fail; generalize w1.setCell ⟨x, 11, none⟩ (.slice xa ns xc) = w2 at *
 clear e5 c11 z11; obtain ⟨j0, hj, hj0, hj1, hj2⟩ := Ow.info_of' Ow.i_own'
 have HF0 : Hid (∀ wr c vs vm va sl ml al D', Part N w0 w wr D' A x cs c vs vm va sl ml al -> Below w0.heap.size w0 wr /\ ∀ (wx : World), Below wr.heap.size wr wx -> (∀ k, k < 11 -> wx.cell? ⟨x, k, none⟩ = cs[k]?) /\ wx.cell? ⟨x, 11, none⟩ = some vs /\ wx.cell? ⟨x, 12, none⟩ = some vm /\ wx.cell? ⟨x, 13, none⟩ = some va) := hide (by
  intro wr c vs vm va sl ml al D' h; refine ⟨below_fx HB.out h.fx fun k h => HT0.out k h.1, fun wx hb => ?_⟩; have hx := (hb.block x (Ow.lt_of_blk h.blk)).trans h.blk
  exact ⟨fun k hk => (cell_box hx k).trans (h.same k hk), (cell_box hx 11).trans h.c11, (cell_box hx 12).trans h.c12, (cell_box hx 13).trans h.c13⟩)
 go_loopw [20] (fun i wr => ∃ (k : Nat) (c : Array Value) (la : Option Addr) (ln lc : Nat), k <= nm /\ i = .int .i64 k /\ Hid (Part N w0 w wr D A x cs c (.slice xa ns xc) (.slice la ln lc) (.slice none 0 0) (Pp.ownL (N.cl x) false (N.cl x).fields) ((Net.ownM (N.cl x)).take k) [])) (fun i _ => nm - (intOf i).toNat)
 case atStart => exact ⟨0, k1, none, 0, 0, Nat.zero_le _, rfl, by simpa using HP1⟩
 case round =>
  obtain ⟨k, c, la, ln, lc, hk, rfl, HP⟩ := hrel; by_cases hlt : k < nm
  · obtain ⟨m, hx⟩ : ∃ m, (N.cl x).methods[k]? = some m := ⟨(N.cl x).methods[k]'(by rw [<- HNm.out]; exact hlt), List.getElem?_eq_getElem _⟩
    have hBr := HF0.out _ _ _ _ _ _ _ _ _ HP.out; have HRr := (HRow.out.on hBr.1 fun _ _ h => h); obtain ⟨g, o, eg, ys, wf, hc⟩ := Ow.row_at' HRr hx; subst eg; have HW := hide wf; obtain ⟨vp, vc, vk, rfl, y1, y2, y3, _⟩ := wf; obtain ⟨ap, cp, rfl, _⟩ := y1.len; obtain ⟨ac, cc, rfl, _⟩ := y2.len; obtain ⟨ak, ck, rfl, _⟩ := y3.len; have r0 := hc wr (Below.refl _ _) 0 _ rfl; have r1 := hc wr (Below.refl _ _) 1 _ rfl; have r2 := hc wr (Below.refl _ _) 2 _ rfl; have r3 := hc wr (Below.refl _ _) 3 _ rfl; have r4 := hc wr (Below.refl _ _) 4 _ rfl; have r5 := hc wr (Below.refl _ _) 5 _ rfl; have r6 := hc wr (Below.refl _ _) 6 _ rfl; have r7 := hc wr (Below.refl _ _) 7 _ rfl; have r8 := hc wr (Below.refl _ _) 8 _ rfl; rw [Nat.add_zero] at r0; have hlt' : (k : Int) < (nm : Int) := by omega
    clear hc HRr y1 y2 y3; obtain ⟨wA, hwA⟩ : ∃ q : World, q = wr.alloc (.cells (mthXL m (.slice ap m.params.length cp) (.slice ac m.code.length cc) (.slice ak m.catches.length ck)).toArray 29) := ⟨_, rfl⟩; have hA1 : Below wr.heap.size wr wA := hwA ▸ (Below.refl _ _).alloc (Nat.le_refl _) _; have hbx : wA.heap[wr.heap.size]? = some (.cells (mthXL m (.slice ap m.params.length cp) (.slice ac m.code.length cc) (.slice ak m.catches.length ck)).toArray 29 (0, 0)) := hwA ▸ heap_alloc_new wr _; have b0 := cell_box hbx 0; have b1 := cell_box hbx 1; have b2 := cell_box hbx 2; have b3 := cell_box hbx 3; have b4 := cell_box hbx 4; have b5 := cell_box hbx 5; have b6 := cell_box hbx 6; have b7 := cell_box hbx 7; have b8 := cell_box hbx 8; simp [mthXL] at b0 b1 b2 b3 b4 b5 b6 b7 b8; obtain ⟨g1, _, g3, _⟩ := hBr.2 wA hA1; have q0 := (g1 0 (by decide)).trans (HCs.out 0 _ rfl)
    rw [<- HNb.out] at q0; simp only [mthXL] at hwA; have HA1 := hide hA1; clear hA1 hbx g1; rw [hwA] at b0 b1 b2 b3 b4 b5 b6 b7 b8 q0 g3
    have HMk : Hid ((Net.ownM (N.cl x)).take (k + 1) = (Net.ownM (N.cl x)).take k ++ [((N.cl x).name, m)]) := hide (by
     rw [List.take_add_one]; unfold Net.ownM; rw [List.getElem?_map, hx]
     rfl)
    have HOm := hide (HP.out.mths.on HA1.out fun _ _ h => h); have hB2 : Below wA.heap.size wA (wA.alloc (.cells #[.string nb, .string ⟨m.name.toArray⟩, .bool m.stat, .bool m.abst, .slice ap m.params.length cp, .int .i64 m.ret.kind, .string ⟨m.ret.name.toArray⟩, .int .i64 m.locals, .slice ac m.code.length cc, .slice ak m.catches.length ck] 55)).drew := ((Below.refl _ _).alloc (Nat.le_refl _) _).drew; have HO1 := hide (HOm.out.on hB2 fun _ _ h => h)
    have HR1 : Hid (RowX (wA.alloc (.cells #[.string nb, .string ⟨m.name.toArray⟩, .bool m.stat, .bool m.abst, .slice ap m.params.length cp, .int .i64 m.ret.kind, .string ⟨m.ret.name.toArray⟩, .int .i64 m.locals, .slice ac m.code.length cc, .slice ak m.catches.length ck] 55)).drew 10 (PMt w0) (.slice (some ⟨wA.heap.size, 0, none⟩) 1 1) [((N.cl x).name, m)]) := hide (by
     rw [HNb.out]; have h := Ow.row_one' (w := wA) (t := 55) (sz := 10) (P := PMt w0) (x := ((N.cl x).name, m)) ⟨_, rfl, HW.out⟩
     exact h.on (Below.drew (Below.refl _ _)) fun _ _ h => h)
    have HBt := hide (HA1.out.trans (hB2.mono HA1.out.size)); have hsz : w.heap.size <= (wA.alloc (.cells #[.string nb, .string ⟨m.name.toArray⟩, .bool m.stat, .bool m.abst, .slice ap m.params.length cp, .int .i64 m.ret.kind, .string ⟨m.ret.name.toArray⟩, .int .i64 m.locals, .slice ac m.code.length cc, .slice ak m.catches.length ck] 55)).drew.heap.size := Nat.le_trans HP.out.fx.size HBt.out.size
    have hln : ((Net.ownM (N.cl x)).take k).length + [((N.cl x).name, m)].length <= 1000000 := by
     rw [List.length_take]; simp; omega
    have g3b := (hBr.2 _ HBt.out).2.2.1; rw [World.cell?_drew] at g3b; clear hB2 hx HA1 HOm HW; go_wp2_with fail; rw [<- hwA] at b0 b1 b2 b3 b4 b5 b6 b7 b8 q0 g3 ⊢; have hsA : wr.heap.size + 1 = wA.heap.size := by rw [hwA]; simp
    clear hwA r0 r1 r2 r3 r4 r5 r6 r7 r8
    go_region_law (first
     | (refine Ow.step_app2 rfl (.tmp 28) (.tmp 36) 82 rfl Tryz.underlying82 hj hj0 hj1 hj2 (by decide) (shp_pmt w0) (by first | rfl | simp [Act.eval, Act.put]) HO1.out (by first | rfl | simp [Act.eval, Act.put]) HR1.out hln (by decide) hsz ?_
        intro v5 w5 ho5 hg5 hq5; obtain ⟨hx5, c5, hP5⟩ := HP.out.mth hTx HA.out HT.out HBt.out hg5 (HMk.out ▸ ho5) hq5; have HP5 := hide hP5; have s12 : w5.cell? ⟨x, 12, none⟩ = some (.slice la ln lc) := (cell_box hx5 12).trans HP.out.c12; have f12 : w5.frozen? ⟨x, 12, none⟩ = false := Ow.fzl_blk hx5 12; obtain ⟨ya, yc, hv5⟩ := ho5.shape; obtain ⟨n5, hn5⟩ : ∃ q, q = ((Net.ownM (N.cl x)).take k ++ [((N.cl x).name, m)]).length := ⟨_, rfl⟩; rw [<- hn5] at hv5; clear hP5 ho5 hg5 hq5 hx5 HO1 HR1 HBt hsz hln hn5
        subst hv5))
    all_goals
     go_wp2_with fail
     go_roundw
     case rel => exact ⟨k + 1, c5, ya, n5, yc, by omega, by go_num, HP5⟩
     case measure => simp [intOf]; omega
  · have hnl : ¬ ((k : Int) < (nm : Int)) := by omega
    have HP2 : Hid (Part N w0 w wr D A x cs c (.slice xa ns xc) (.slice la ln lc) (.slice none 0 0) (Pp.ownL (N.cl x) false (N.cl x).fields) (Net.ownM (N.cl x)) []) := hide (by
     have h := HP.out
     rwa [List.take_of_length_le (by unfold Net.ownM; rw [List.length_map, <- HNm.out]; omega)] at h)
    have hg := HF0.out _ _ _ _ _ _ _ _ _ HP2.out; have e1 := ((hg.2 wr (Below.refl _ _)).1 1 (by decide)).trans (HCs.out 1 _ rfl)
    have e7 := ((hg.2 wr (Below.refl _ _)).1 7 (by decide)).trans H67.out.2
    rw [<- HFi.out] at e1; have e13 := (hg.2 wr (Below.refl _ _)).2.2.2; have f13 : wr.frozen? ⟨x, 13, none⟩ = false := Ow.fzl_blk HP2.out.blk 13; clear hg HP; have HF6 : Hid (∀ (wq : World) (c' : Array Value) (va : Value), Part N w0 w wq D A x cs c' (.slice xa ns xc) (.slice la ln lc) va (Pp.ownL (N.cl x) false (N.cl x).fields) (Net.ownM (N.cl x)) (N.ab0 x []) -> wq.cell? ⟨x, 7, none⟩ = some vi) := hide fun wq c' va h => (((HF0.out _ _ _ _ _ _ _ _ _ h).2 wq (Below.refl _ _)).1 7 (by decide)).trans H67.out.2
    obtain ⟨via, vic, hvi', _⟩ := HVi.out.row.len; obtain ⟨nif, hnif⟩ : ∃ q, q = (N.ifs x).length := ⟨_, rfl⟩; rw [<- hnif] at hvi'; have HNif := hide hnif; have hnif1 : nif <= 1000 := by rw [hnif]; exact hN.ifs x hTx
    clear hnif; subst hvi'; have HS := hide (HP2.out.self hTx HA.out HT.out); have hbw := (((Below.refl wr.heap.size wr).alloc (Nat.le_refl _) (.cells #[.pointer (some ⟨x, 0, none⟩)] 51)).block x (Ow.lt_of_blk HP2.out.blk)).trans HP2.out.blk; have a13 := (cell_box hbw 13).trans HP2.out.c13; have y13 : (wr.alloc (.cells #[.pointer (some ⟨x, 0, none⟩)] 51)).frozen? ⟨x, 13, none⟩ = false := Ow.fzl_blk hbw 13; clear hbw; cases hfi : fi with
    | true =>
      rw [hfi] at e1 HFi; obtain ⟨c6, hP6⟩ := HS.out; have h0 : N.ab0 x [] = [x] := by rw [Net.ab0_nil, <- HFi.out]; rfl
      have HP6 := hide hP6; rw [<- h0] at HP6; have a7 := HF6.out _ _ _ HP6.out; clear hP6 h0 HS; go_wp2_with fail
      go_loopw [56] (fun i wz => ∃ (k : Nat) (D' : Nat -> Prop) (c : Array Value) (va : Value), k <= nif /\ i = .int .i64 k /\ Hid ((∀ j, D j -> D' j) /\ (∀ j, D' j -> D j \/ N.T j /\ N.rk j < N.rk x)) /\ Hid (Part N w0 w wz D' A x cs c (.slice xa ns xc) (.slice la ln lc) va (Pp.ownL (N.cl x) false (N.cl x).fields) (Net.ownM (N.cl x)) (N.ab0 x ((N.ifs x).take k)))) (fun i _ => nif - (intOf i).toNat)
      case atStart => exact ⟨0, D, _, _, Nat.zero_le _, rfl, hide ⟨fun _ h => h, fun _ h => .inl h⟩, by simpa using HP6⟩
      case round =>
       obtain ⟨k, D', c, va, hk, rfl, HDD, HQ⟩ := hrel; by_cases hlt : k < nif
       · obtain ⟨y, hy⟩ : ∃ y, (N.ifs x)[k]? = some y := ⟨(N.ifs x)[k]'(by rw [<- HNif.out]; exact hlt), List.getElem?_eq_getElem _⟩
         have hym := hG.ifs x y hTx (List.mem_of_getElem? hy); have hRv := (HVi.out.on (HQ.out.fx.mono fun k _ h => .inl h.1) fun _ _ h => h).row; rename_i wz _ _ _ _; obtain ⟨g, o, eg, ys, wf, hc⟩ := Ow.row_at' hRv hy; subst eg; have hwf : ys = [.pointer (some ⟨y, 0, none⟩)] := wf; subst hwf; have r0 := hc _ (Below.refl _ _) 0 _ rfl; rw [Nat.add_zero, Nat.mul_one] at r0; have HMade := hide (HLow.out y hym.1 hym.2 _ D' _ (N.rk x) hym.2 HQ.out.inv (HQ.out.priv HA.out HT.out) (HF0.out _ _ _ _ _ _ _ _ _ HQ.out).1 fun k hk => Nat.lt_of_lt_of_le (HT.out k hk) HQ.out.fx.size); have hlt' : (k : Int) < (nif : Int) := by omega
         clear hc wf hRv; go_wp2_with fail; refine HMade.out.mono ?_; rintro e w7 ⟨rfl, D2, dd1, dd2, dd3, dI, dF⟩; have HP7 := hide (HQ.out.made hym.2 hym.1 dF dI)
         have HD2 : Hid ((∀ j, D j -> D2 j) /\ (∀ j, D2 j -> D j \/ N.T j /\ N.rk j < N.rk x)) := hide ⟨fun j h => dd1 j (HDD.out.1 j h), fun j h => by
          rcases dd3 j h with h | ⟨h1, h2⟩
          · exact HDD.out.2 j h
          · refine .inr ⟨h1, ?_⟩
            have h3 := hym.2
            rcases h2 with h2 | h2
            · rw [h2]; exact h3
            · omega⟩
         obtain ⟨cy, hy1, _, _, _, hy5, _⟩ := HP7.out.inv y hym.1 hym.2; obtain ⟨_, _, uy, _, _, hy13, _, _, hyr⟩ := (hy5 dd2).2; have a13 := (cell_box hy1 13).trans hy13
         have HAk : Hid (N.ab0 x ((N.ifs x).take (k + 1)) = lookL (N.ab0 x ((N.ifs x).take k)) (N.ab y)) := hide (by
          rw [List.take_add_one, hy]
          exact Net.ab0_snoc x y _)
         have hmem : ∀ z ∈ N.ab0 x ((N.ifs x).take k) ++ N.ab y, N.T z /\ (z = x \/ N.rk z < N.rk x) := fun z hz => by
          rcases List.mem_append.1 hz with hz | hz
          · exact (hG.mem_ab (N.rk x + 1) x hTx (by omega)).1 _ (fun i hi => List.mem_of_mem_take hi) z hz
          · obtain ⟨q1, q2⟩ := (hG.mem_ab (N.rk y + 1) y hym.1 (by omega)).2 z hz
            refine ⟨q1, .inr ?_⟩; have h3 := hym.2
            rcases q2 with rfl | q2
            · exact h3
            · omega
         have hpv := HP7.out.priv HA.out HT.out
         have HLook := hide (lookAlso_any (fun j => j = x \/ va.ownBlock = some j) (N.ab y) (N.ab0 x ((N.ifs x).take k)) x w.heap.size c va uy w7 HP7.out.blk HP7.out.size HP7.out.c13 HP7.out.above HP7.out.fx.size (.inl rfl) (fun j h => .inr h)
          (hyr.sub fun j _ h => by
            rcases h with h | h
            · exact .inl (by rw [show j = x from h]; exact hTx)
            · exact .inr (.inr (.inr (.inr h))))
          (by
            have h1 := hN.ab0 x ((N.ifs x).take k) hTx (fun i hi => List.mem_of_mem_take hi); have h2 := hN.ab y hym.1; omega) (HP7.out.live _ hmem) (fun z hz h => by
            rcases h with h | h
            · exact h
            · exact absurd (hmem z hz).1 (hpv z (.inr (.inr (.inr h)))).2))
         obtain ⟨ya, yc, huy, _⟩ := hyr.row.len; obtain ⟨ny, hny⟩ : ∃ q, q = (N.ab y).length := ⟨_, rfl⟩; rw [<- hny] at huy; subst huy; clear HMade dd1 dd2 dd3 dI dF hy1 hy5 hy13 hyr hny hmem hpv HQ HDD; go_wp2_with fail; refine HLook.out.mono ?_; rintro e w8 ⟨rfl, va8, lb, lo, lf, lm⟩
         have HP8 : Hid (Part N w0 w w8 D2 A x cs (upC c va8) (.slice xa ns xc) (.slice la ln lc) va8 (Pp.ownL (N.cl x) false (N.cl x).fields) (Net.ownM (N.cl x)) (N.ab0 x ((N.ifs x).take (k + 1)))) := hide (by
          rw [HAk.out]
          have hno : ∀ (e : TypeId), e ≠ 84 -> e ≠ 51 -> ∀ (j : Nat) (cc : Array Value), w7.heap[j]? = some (.cells cc e (0, 0)) -> ¬ (j = x \/ va.ownBlock = some j) := fun e h1 h2 j cc hj h => by
           rcases h with h | h
           · rw [h, HP7.out.blk] at hj; injection hj with hj; injection hj with _ hj; exact h1 hj.symm
           · obtain ⟨_, c9, h9⟩ := own_lt HP7.out.above h
             rw [hj] at h9; injection h9 with h9; injection h9 with _ h9; exact h2 h9
          exact HP7.out.next hTx HA.out HT.out lf (fun j _ h => h.imp id fun h => .inr (.inr h)) lb (by unfold upC; simp [HP7.out.size]) (fun j hj => set_at _ (by omega)) ((set_at _ (by decide)).trans HP7.out.c11) ((set_at _ (by decide)).trans HP7.out.c12) (upC_at HP7.out.size _)
           (HP7.out.slots.fx lf (hno _ (by decide) (by decide))) (HP7.out.mths.fx lf (hno _ (by decide) (by decide))) lo (Moved.refl _ _).came (Moved.refl _ _) lm)
         clear HLook lb lo lf lm HP7; go_wp2_with fail
         go_roundw
         case rel => exact ⟨k + 1, D2, _, va8, by omega, by go_num, HD2, HP8⟩
         case measure => simp [intOf]; omega
       · have hnl : ¬ ((k : Int) < (nif : Int)) := by omega
         have HE : Hid (Part N w0 w _ D' A x cs c (.slice xa ns xc) (.slice la ln lc) va (Pp.ownL (N.cl x) false (N.cl x).fields) (Net.ownM (N.cl x)) (N.ab0 x (N.ifs x))) := hide (by
          have h := HQ.out
          rwa [List.take_of_length_le (by rw [<- HNif.out]; omega)] at h)
         have a6 := (((HF0.out _ _ _ _ _ _ _ _ _ HE.out).2 _ (Below.refl _ _)).1 6 (by decide)).trans H67.out.1
         clear HQ; cases hsup : N.sup x with
         | none =>
           rw [hsup] at a6; have a6' := a6; simp only [Option.map_none] at a6'; have hfin := HE.out; have q1 := hG.sl x hTx; have q2 := hG.mt x hTx; have q3 := hG.ab x hTx; rw [hsup] at q1 q2 q3; dsimp only at q1 q2 q3; rw [<- q1, <- q2, <- q3] at hfin; have HFin := hide (hfin.filled hG HW0.out HA.out HT.out HDD.out.1 HDD.out.2); clear a6 hfin q1 q2 q3 hsup; go_wp2_with fail; exact bodyPost_end (v := .tuple #[]) (by simp [results, Tryz.results31, go_sem]) rfl ⟨rfl, D', HFin.out⟩
         | some s =>
           rw [hsup] at a6; have a6' := a6; simp only [Option.map_some] at a6'; clear a6; obtain ⟨hTs, hrs⟩ := hG.sup x s hTx hsup; have HMd := hide (HLow.out s hTs hrs _ D' _ (N.rk x) hrs HE.out.inv (HE.out.priv HA.out HT.out) (HF0.out _ _ _ _ _ _ _ _ _ HE.out).1 fun k hk => Nat.lt_of_lt_of_le (HT.out k hk) HE.out.fx.size); go_wp2_with fail; refine HMd.out.mono ?_; rintro e w7 ⟨rfl, D2, dd1, dd2, dd3, dI, dF⟩; have HP7 := hide (HE.out.made hrs hTs dF dI)
           have HD2 : Hid ((∀ j, D j -> D2 j) /\ (∀ j, D2 j -> D j \/ N.T j /\ N.rk j < N.rk x)) := hide ⟨fun j h => dd1 j (HDD.out.1 j h), fun j h => by
            rcases dd3 j h with h | ⟨h1, h2⟩
            · exact HDD.out.2 j h
            · refine .inr ⟨h1, ?_⟩
              rcases h2 with h2 | h2
              · rw [h2]; exact hrs
              · omega⟩
           obtain ⟨cy, hy1, _, _, _, hy5, _⟩ := HP7.out.inv s hTs hrs; obtain ⟨us, um, ua, hy11, hy12, hy13, hsr, hmr, har⟩ := (hy5 dd2).2; have hpv := HP7.out.priv HA.out HT.out; have q1 := hG.sl x hTx; have q2 := hG.mt x hTx; have q3 := hG.ab x hTx; rw [hsup] at q1 q2 q3; dsimp only at q1 q2 q3
           have hmem : ∀ z ∈ N.ab0 x (N.ifs x) ++ N.ab s, N.T z /\ (z = x \/ N.rk z < N.rk x) := fun z hz => by
            rcases List.mem_append.1 hz with hz | hz
            · exact (hG.mem_ab (N.rk x + 1) x hTx (by omega)).1 _ (fun i hi => hi) z hz
            · obtain ⟨p1, p2⟩ := (hG.mem_ab (N.rk s + 1) s hTs (by omega)).2 z hz
              refine ⟨p1, .inr ?_⟩
              rcases p2 with rfl | p2
              · exact hrs
              · omega
           have hsub : ∀ j, j < w7.heap.size -> (j = x \/ Priv (.slice xa ns xc) (.slice la ln lc) va j) -> (N.T j \/ A j \/ Priv (.slice xa ns xc) (.slice la ln lc) va j) := fun j _ h => by
            rcases h with h | h
            · exact .inl (by rw [h]; exact hTx)
            · exact .inr (.inr h)
           have hsS : ¬ (s = x \/ Priv (.slice xa ns xc) (.slice la ln lc) va s) := fun h => by
            rcases h with h | h
            · rw [h] at hrs; omega
            · exact (hpv s (.inr h)).2 hTs
           have hnum : (N.sl s).length + (Pp.ownL (N.cl x) false (N.cl x).fields).length <= 1000000 /\ (Net.ownM (N.cl x)).length + (N.mt s).length <= 1000000 := by
            have h1 := hN.sl x hTx; have h2 := hN.mt x hTx; rw [q1, List.length_append] at h1; rw [q2, List.length_append] at h2; omega
           have HInh := hide (inherit_any (PMt w0) (shp_pmt w0) (fun j => j = x \/ Priv (.slice xa ns xc) (.slice la ln lc) va j) x s w.heap.size c cy (.slice xa ns xc) (.slice la ln lc) va us um ua (Pp.ownL (N.cl x) false (N.cl x).fields) (N.sl s) (Net.ownM (N.cl x)) (N.mt s) (N.ab0 x (N.ifs x)) (N.ab s) w7
            HP7.out.blk HP7.out.size HP7.out.c11 HP7.out.c12 HP7.out.c13 hy1 hy11 hy12 hy13 hsS (HP7.out.slots.row shp_slt fun _ _ h => h) HP7.out.mths HP7.out.above hsr.row (hmr.sub hsub) (har.sub hsub) HP7.out.fx.size (.inl rfl) (fun j h => .inr (.inr (.inl h))) (fun j h => .inr (.inr (.inr h)))
            hnum.1 hnum.2 (by
             have h1 := hN.ab0 x (N.ifs x) hTx (fun i hi => hi); have h2 := hN.ab s hTs; omega) (HP7.out.live _ hmem) (fun z hz h => by
             rcases h with h | h
             · exact h
             · exact absurd (hmem z hz).1 (hpv z (.inr h)).2))
           have HQs := hide (And.intro q1 (And.intro q2 q3)); clear HMd dd1 dd2 dd3 dI dF hy1 hy5 hy11 hy12 hy13 hsr hmr har hmem hpv hsub hsS hnum q1 q2 q3 HE HDD hsup; go_wp2_with fail; refine HInh.out.mono ?_; rintro e w8 ⟨rfl, vs8, vm8, va8, lb, l1, l2, l3, lf, lm, la8⟩
           have hP8 := HP7.out.next hTx HA.out HT.out lf (fun j _ h => h) lb (by unfold listC; simp [HP7.out.size]) (fun j hj => (set_at _ (by omega)).trans ((set_at _ (by omega)).trans (set_at _ (by omega))))
            ((set_at _ (by decide)).trans ((set_at _ (by decide)).trans (set_self _ (by rw [HP7.out.size]; decide)))) ((set_at _ (by decide)).trans (set_self _ (by simp [HP7.out.size]))) (set_self _ (by simp [HP7.out.size]))
            (l1.low HP7.out.fx.size fun _ _ h => h) l2 l3 (fun j hj hv => by
              obtain ⟨nw, _, hown⟩ := l1
              rcases hown.2 with ⟨rfl, _⟩ | ⟨g, cap, cur, rfl, hg, _⟩
              · cases hv
              · injection hv with hv
                have hv : g = j := hv
                omega) lm la8
           rw [<- HQs.out.1, <- HQs.out.2.1, <- HQs.out.2.2] at hP8; have HFin := hide (hP8.filled hG HW0.out HA.out HT.out HD2.out.1 HD2.out.2); clear HInh lb l1 l2 l3 lf lm la8 hP8 HP7; go_wp2_with fail; exact bodyPost_end (v := .tuple #[]) (by simp [results, Tryz.results31, go_sem]) rfl ⟨rfl, D2, HFin.out⟩
    | false =>
      rw [hfi] at e1 HFi; have h0 : N.ab0 x [] = [] := by rw [Net.ab0_nil, <- HFi.out]; rfl
      have HP6 := HP2; rw [<- h0] at HP6; clear h0 HS a13 y13; go_wp2_with fail
      go_loopw [56] (fun i wz => ∃ (k : Nat) (D' : Nat -> Prop) (c : Array Value) (va : Value), k <= nif /\ i = .int .i64 k /\ Hid ((∀ j, D j -> D' j) /\ (∀ j, D' j -> D j \/ N.T j /\ N.rk j < N.rk x)) /\ Hid (Part N w0 w wz D' A x cs c (.slice xa ns xc) (.slice la ln lc) va (Pp.ownL (N.cl x) false (N.cl x).fields) (Net.ownM (N.cl x)) (N.ab0 x ((N.ifs x).take k)))) (fun i _ => nif - (intOf i).toNat)
      case atStart => exact ⟨0, D, _, _, Nat.zero_le _, rfl, hide ⟨fun _ h => h, fun _ h => .inl h⟩, by simpa using HP6⟩
      case round =>
       obtain ⟨k, D', c, va, hk, rfl, HDD, HQ⟩ := hrel; by_cases hlt : k < nif
       · obtain ⟨y, hy⟩ : ∃ y, (N.ifs x)[k]? = some y := ⟨(N.ifs x)[k]'(by rw [<- HNif.out]; exact hlt), List.getElem?_eq_getElem _⟩
         have hym := hG.ifs x y hTx (List.mem_of_getElem? hy); have hRv := (HVi.out.on (HQ.out.fx.mono fun k _ h => .inl h.1) fun _ _ h => h).row; rename_i wz _ _ _ _; obtain ⟨g, o, eg, ys, wf, hc⟩ := Ow.row_at' hRv hy; subst eg; have hwf : ys = [.pointer (some ⟨y, 0, none⟩)] := wf; subst hwf; have r0 := hc _ (Below.refl _ _) 0 _ rfl; rw [Nat.add_zero, Nat.mul_one] at r0; have HMade := hide (HLow.out y hym.1 hym.2 _ D' _ (N.rk x) hym.2 HQ.out.inv (HQ.out.priv HA.out HT.out) (HF0.out _ _ _ _ _ _ _ _ _ HQ.out).1 fun k hk => Nat.lt_of_lt_of_le (HT.out k hk) HQ.out.fx.size); have hlt' : (k : Int) < (nif : Int) := by omega
         clear hc wf hRv; go_wp2_with fail; refine HMade.out.mono ?_; rintro e w7 ⟨rfl, D2, dd1, dd2, dd3, dI, dF⟩; have HP7 := hide (HQ.out.made hym.2 hym.1 dF dI)
         have HD2 : Hid ((∀ j, D j -> D2 j) /\ (∀ j, D2 j -> D j \/ N.T j /\ N.rk j < N.rk x)) := hide ⟨fun j h => dd1 j (HDD.out.1 j h), fun j h => by
          rcases dd3 j h with h | ⟨h1, h2⟩
          · exact HDD.out.2 j h
          · refine .inr ⟨h1, ?_⟩
            have h3 := hym.2
            rcases h2 with h2 | h2
            · rw [h2]; exact h3
            · omega⟩
         obtain ⟨cy, hy1, _, _, _, hy5, _⟩ := HP7.out.inv y hym.1 hym.2; obtain ⟨_, _, uy, _, _, hy13, _, _, hyr⟩ := (hy5 dd2).2; have a13 := (cell_box hy1 13).trans hy13
         have HAk : Hid (N.ab0 x ((N.ifs x).take (k + 1)) = lookL (N.ab0 x ((N.ifs x).take k)) (N.ab y)) := hide (by
          rw [List.take_add_one, hy]
          exact Net.ab0_snoc x y _)
         have hmem : ∀ z ∈ N.ab0 x ((N.ifs x).take k) ++ N.ab y, N.T z /\ (z = x \/ N.rk z < N.rk x) := fun z hz => by
          rcases List.mem_append.1 hz with hz | hz
          · exact (hG.mem_ab (N.rk x + 1) x hTx (by omega)).1 _ (fun i hi => List.mem_of_mem_take hi) z hz
          · obtain ⟨q1, q2⟩ := (hG.mem_ab (N.rk y + 1) y hym.1 (by omega)).2 z hz
            refine ⟨q1, .inr ?_⟩; have h3 := hym.2
            rcases q2 with rfl | q2
            · exact h3
            · omega
         have hpv := HP7.out.priv HA.out HT.out
         have HLook := hide (lookAlso_any (fun j => j = x \/ va.ownBlock = some j) (N.ab y) (N.ab0 x ((N.ifs x).take k)) x w.heap.size c va uy w7 HP7.out.blk HP7.out.size HP7.out.c13 HP7.out.above HP7.out.fx.size (.inl rfl) (fun j h => .inr h)
          (hyr.sub fun j _ h => by
            rcases h with h | h
            · exact .inl (by rw [show j = x from h]; exact hTx)
            · exact .inr (.inr (.inr (.inr h))))
          (by
            have h1 := hN.ab0 x ((N.ifs x).take k) hTx (fun i hi => List.mem_of_mem_take hi); have h2 := hN.ab y hym.1; omega) (HP7.out.live _ hmem) (fun z hz h => by
            rcases h with h | h
            · exact h
            · exact absurd (hmem z hz).1 (hpv z (.inr (.inr (.inr h)))).2))
         obtain ⟨ya, yc, huy, _⟩ := hyr.row.len; obtain ⟨ny, hny⟩ : ∃ q, q = (N.ab y).length := ⟨_, rfl⟩; rw [<- hny] at huy; subst huy; clear HMade dd1 dd2 dd3 dI dF hy1 hy5 hy13 hyr hny hmem hpv HQ HDD; go_wp2_with fail; refine HLook.out.mono ?_; rintro e w8 ⟨rfl, va8, lb, lo, lf, lm⟩
         have HP8 : Hid (Part N w0 w w8 D2 A x cs (upC c va8) (.slice xa ns xc) (.slice la ln lc) va8 (Pp.ownL (N.cl x) false (N.cl x).fields) (Net.ownM (N.cl x)) (N.ab0 x ((N.ifs x).take (k + 1)))) := hide (by
          rw [HAk.out]
          have hno : ∀ (e : TypeId), e ≠ 84 -> e ≠ 51 -> ∀ (j : Nat) (cc : Array Value), w7.heap[j]? = some (.cells cc e (0, 0)) -> ¬ (j = x \/ va.ownBlock = some j) := fun e h1 h2 j cc hj h => by
           rcases h with h | h
           · rw [h, HP7.out.blk] at hj; injection hj with hj; injection hj with _ hj; exact h1 hj.symm
           · obtain ⟨_, c9, h9⟩ := own_lt HP7.out.above h
             rw [hj] at h9; injection h9 with h9; injection h9 with _ h9; exact h2 h9
          exact HP7.out.next hTx HA.out HT.out lf (fun j _ h => h.imp id fun h => .inr (.inr h)) lb (by unfold upC; simp [HP7.out.size]) (fun j hj => set_at _ (by omega)) ((set_at _ (by decide)).trans HP7.out.c11) ((set_at _ (by decide)).trans HP7.out.c12) (upC_at HP7.out.size _)
           (HP7.out.slots.fx lf (hno _ (by decide) (by decide))) (HP7.out.mths.fx lf (hno _ (by decide) (by decide))) lo (Moved.refl _ _).came (Moved.refl _ _) lm)
         clear HLook lb lo lf lm HP7; go_wp2_with fail
         go_roundw
         case rel => exact ⟨k + 1, D2, _, va8, by omega, by go_num, HD2, HP8⟩
         case measure => simp [intOf]; omega
       · have hnl : ¬ ((k : Int) < (nif : Int)) := by omega
         have HE : Hid (Part N w0 w _ D' A x cs c (.slice xa ns xc) (.slice la ln lc) va (Pp.ownL (N.cl x) false (N.cl x).fields) (Net.ownM (N.cl x)) (N.ab0 x (N.ifs x))) := hide (by
          have h := HQ.out
          rwa [List.take_of_length_le (by rw [<- HNif.out]; omega)] at h)
         have a6 := (((HF0.out _ _ _ _ _ _ _ _ _ HE.out).2 _ (Below.refl _ _)).1 6 (by decide)).trans H67.out.1
         clear HQ; cases hsup : N.sup x with
         | none =>
           rw [hsup] at a6; have a6' := a6; simp only [Option.map_none] at a6'; have hfin := HE.out; have q1 := hG.sl x hTx; have q2 := hG.mt x hTx; have q3 := hG.ab x hTx; rw [hsup] at q1 q2 q3; dsimp only at q1 q2 q3; rw [<- q1, <- q2, <- q3] at hfin; have HFin := hide (hfin.filled hG HW0.out HA.out HT.out HDD.out.1 HDD.out.2); clear a6 hfin q1 q2 q3 hsup; go_wp2_with fail; exact bodyPost_end (v := .tuple #[]) (by simp [results, Tryz.results31, go_sem]) rfl ⟨rfl, D', HFin.out⟩
         | some s =>
           rw [hsup] at a6; have a6' := a6; simp only [Option.map_some] at a6'; clear a6; obtain ⟨hTs, hrs⟩ := hG.sup x s hTx hsup; have HMd := hide (HLow.out s hTs hrs _ D' _ (N.rk x) hrs HE.out.inv (HE.out.priv HA.out HT.out) (HF0.out _ _ _ _ _ _ _ _ _ HE.out).1 fun k hk => Nat.lt_of_lt_of_le (HT.out k hk) HE.out.fx.size); go_wp2_with fail; refine HMd.out.mono ?_; rintro e w7 ⟨rfl, D2, dd1, dd2, dd3, dI, dF⟩; have HP7 := hide (HE.out.made hrs hTs dF dI)
           have HD2 : Hid ((∀ j, D j -> D2 j) /\ (∀ j, D2 j -> D j \/ N.T j /\ N.rk j < N.rk x)) := hide ⟨fun j h => dd1 j (HDD.out.1 j h), fun j h => by
            rcases dd3 j h with h | ⟨h1, h2⟩
            · exact HDD.out.2 j h
            · refine .inr ⟨h1, ?_⟩
              rcases h2 with h2 | h2
              · rw [h2]; exact hrs
              · omega⟩
           obtain ⟨cy, hy1, _, _, _, hy5, _⟩ := HP7.out.inv s hTs hrs; obtain ⟨us, um, ua, hy11, hy12, hy13, hsr, hmr, har⟩ := (hy5 dd2).2; have hpv := HP7.out.priv HA.out HT.out; have q1 := hG.sl x hTx; have q2 := hG.mt x hTx; have q3 := hG.ab x hTx; rw [hsup] at q1 q2 q3; dsimp only at q1 q2 q3
           have hmem : ∀ z ∈ N.ab0 x (N.ifs x) ++ N.ab s, N.T z /\ (z = x \/ N.rk z < N.rk x) := fun z hz => by
            rcases List.mem_append.1 hz with hz | hz
            · exact (hG.mem_ab (N.rk x + 1) x hTx (by omega)).1 _ (fun i hi => hi) z hz
            · obtain ⟨p1, p2⟩ := (hG.mem_ab (N.rk s + 1) s hTs (by omega)).2 z hz
              refine ⟨p1, .inr ?_⟩
              rcases p2 with rfl | p2
              · exact hrs
              · omega
           have hsub : ∀ j, j < w7.heap.size -> (j = x \/ Priv (.slice xa ns xc) (.slice la ln lc) va j) -> (N.T j \/ A j \/ Priv (.slice xa ns xc) (.slice la ln lc) va j) := fun j _ h => by
            rcases h with h | h
            · exact .inl (by rw [h]; exact hTx)
            · exact .inr (.inr h)
           have hsS : ¬ (s = x \/ Priv (.slice xa ns xc) (.slice la ln lc) va s) := fun h => by
            rcases h with h | h
            · rw [h] at hrs; omega
            · exact (hpv s (.inr h)).2 hTs
           have hnum : (N.sl s).length + (Pp.ownL (N.cl x) false (N.cl x).fields).length <= 1000000 /\ (Net.ownM (N.cl x)).length + (N.mt s).length <= 1000000 := by
            have h1 := hN.sl x hTx; have h2 := hN.mt x hTx; rw [q1, List.length_append] at h1; rw [q2, List.length_append] at h2; omega
           have HInh := hide (inherit_any (PMt w0) (shp_pmt w0) (fun j => j = x \/ Priv (.slice xa ns xc) (.slice la ln lc) va j) x s w.heap.size c cy (.slice xa ns xc) (.slice la ln lc) va us um ua (Pp.ownL (N.cl x) false (N.cl x).fields) (N.sl s) (Net.ownM (N.cl x)) (N.mt s) (N.ab0 x (N.ifs x)) (N.ab s) w7
            HP7.out.blk HP7.out.size HP7.out.c11 HP7.out.c12 HP7.out.c13 hy1 hy11 hy12 hy13 hsS (HP7.out.slots.row shp_slt fun _ _ h => h) HP7.out.mths HP7.out.above hsr.row (hmr.sub hsub) (har.sub hsub) HP7.out.fx.size (.inl rfl) (fun j h => .inr (.inr (.inl h))) (fun j h => .inr (.inr (.inr h)))
            hnum.1 hnum.2 (by
             have h1 := hN.ab0 x (N.ifs x) hTx (fun i hi => hi); have h2 := hN.ab s hTs; omega) (HP7.out.live _ hmem) (fun z hz h => by
             rcases h with h | h
             · exact h
             · exact absurd (hmem z hz).1 (hpv z (.inr h)).2))
           have HQs := hide (And.intro q1 (And.intro q2 q3)); clear HMd dd1 dd2 dd3 dI dF hy1 hy5 hy11 hy12 hy13 hsr hmr har hmem hpv hsub hsS hnum q1 q2 q3 HE HDD hsup; go_wp2_with fail; refine HInh.out.mono ?_; rintro e w8 ⟨rfl, vs8, vm8, va8, lb, l1, l2, l3, lf, lm, la8⟩
           have hP8 := HP7.out.next hTx HA.out HT.out lf (fun j _ h => h) lb (by unfold listC; simp [HP7.out.size]) (fun j hj => (set_at _ (by omega)).trans ((set_at _ (by omega)).trans (set_at _ (by omega))))
            ((set_at _ (by decide)).trans ((set_at _ (by decide)).trans (set_self _ (by rw [HP7.out.size]; decide)))) ((set_at _ (by decide)).trans (set_self _ (by simp [HP7.out.size]))) (set_self _ (by simp [HP7.out.size]))
            (l1.low HP7.out.fx.size fun _ _ h => h) l2 l3 (fun j hj hv => by
              obtain ⟨nw, _, hown⟩ := l1
              rcases hown.2 with ⟨rfl, _⟩ | ⟨g, cap, cur, rfl, hg, _⟩
              · cases hv
              · injection hv with hv
                have hv : g = j := hv
                omega) lm la8
           rw [<- HQs.out.1, <- HQs.out.2.1, <- HQs.out.2.2] at hP8; have HFin := hide (hP8.filled hG HW0.out HA.out HT.out HD2.out.1 HD2.out.2); clear HInh lb l1 l2 l3 lf lm la8 hP8 HP7; go_wp2_with fail; exact bodyPost_end (v := .tuple #[]) (by simp [results, Tryz.results31, go_sem]) rfl ⟨rfl, D2, HFin.out⟩
namespace Ly
def firstL {α : Type} (f : α -> Int) : List α -> Int
 | [] => 0
 | a :: l => if f a = 0 then firstL f l else f a
theorem firstL_take {α : Type} {f : α -> Int} {l : List α} {k : Nat} {x : α} (h : firstL f (l.take k) = 0) (hx : l[k]? = some x) : firstL f (l.take (k + 1)) = f x := by
 induction l generalizing k with
 | nil => simp at hx
 | cons a l ih =>
   cases k with
   | zero =>
     simp at hx; subst hx; simp only [Nat.zero_add, List.take_succ_cons, List.take_zero, firstL]
     split
     · exact Eq.symm (by assumption)
     · rfl
   | succ k =>
     rw [List.take_succ_cons] at h ⊢; simp only [firstL] at h ⊢
     split at h
     · rename_i h0
       rw [if_pos h0]; exact ih h (by simpa using hx)
     · rename_i h0
       exact absurd h h0
theorem firstL_stop {α : Type} {f : α -> Int} {l : List α} {k : Nat} {x : α} (h : firstL f (l.take k) = 0) (hx : l[k]? = some x) (hf : f x ≠ 0) : firstL f l = f x := by
 induction l generalizing k with
 | nil => simp at hx
 | cons a l ih =>
   cases k with
   | zero =>
     simp at hx; subst hx; simp only [firstL, if_neg hf]
   | succ k =>
     rw [List.take_succ_cons] at h; simp only [firstL] at h ⊢
     split at h
     · rename_i h0
       rw [if_pos h0]; exact ih h (by simpa using hx)
     · rename_i h0
       exact absurd h h0
theorem firstL_congr {α β : Type} {f : α -> Int} {g : β -> Int} (e : α -> β) : ∀ {l : List α}, (∀ x ∈ l, g (e x) = f x) -> firstL g (l.map e) = firstL f l
 | [], _ => rfl
 | a :: l, h => by
   rw [List.map_cons]; simp only [firstL]; rw [h a (by simp), firstL_congr e fun x hx => h x (List.mem_cons_of_mem _ hx)]
theorem any_take {α : Type} {p : α -> Bool} {l : List α} {k : Nat} {x : α} (h : (l.take k).any p = false) (hx : l[k]? = some x) (hp : p x = false) : (l.take (k + 1)).any p = false := by
 rw [List.take_add_one, hx]; simp only [Option.toList_some, List.any_append, h, List.any_cons, List.any_nil, hp, Bool.or_false]
theorem any_stop {α : Type} {p : α -> Bool} {l : List α} {k : Nat} {x : α} (hx : l[k]? = some x) (hp : p x = true) : l.any p = true := List.any_eq_true.2 ⟨x, List.mem_of_getElem? hx, hp⟩
theorem any_end {α : Type} {p : α -> Bool} {l : List α} {k : Nat} (h : (l.take k).any p = false) (hk : l.length <= k) : l.any p = false := by rwa [List.take_of_length_le hk] at h
theorem all_take {α : Type} {p : α -> Bool} {l : List α} {k : Nat} {x : α} (h : (l.take k).all p = true) (hx : l[k]? = some x) (hp : p x = true) : (l.take (k + 1)).all p = true := by
 rw [List.take_add_one, hx]; simp only [Option.toList_some, List.all_append, h, List.all_cons, List.all_nil, hp, Bool.and_true]
theorem all_stop {α : Type} {p : α -> Bool} {l : List α} {k : Nat} {x : α} (hx : l[k]? = some x) (hp : p x = false) : l.all p = false := by
 cases h : l.all p with
 | false => rfl
 | true => rw [List.all_eq_true.1 h x (List.mem_of_getElem? hx)] at hp; cases hp
theorem all_end {α : Type} {p : α -> Bool} {l : List α} {k : Nat} (h : (l.take k).all p = true) (hk : l.length <= k) : l.all p = true := by rwa [List.take_of_length_le hk] at h
theorem find_take {α : Type} {p : α -> Bool} {l : List α} {k : Nat} {x : α} (h : (l.take k).any p = false) (hx : l[k]? = some x) (hp : p x = true) : l.find? p = some x := by
 rw [List.find?_eq_some_iff_append]; have hlt := (List.getElem?_eq_some_iff.1 hx).1; refine ⟨hp, l.take k, l.drop (k + 1), ?_, fun a ha => ?_⟩
 · have h1 : l[k] = x := by simpa [List.getElem?_eq_getElem hlt] using hx
   rw [<- h1, <- List.drop_eq_getElem_cons hlt, List.take_append_drop]
 · have := List.any_eq_false.1 h a ha
   simpa using this
theorem find_end {α : Type} {p : α -> Bool} {l : List α} {k : Nat} (h : (l.take k).any p = false) (hk : l.length <= k) : l.find? p = none := by
 rw [List.find?_eq_none]; intro x hx; exact List.any_eq_false.1 (any_end h hk) x hx
end Ly
end Go.Proofs.YtjlappamkfjlkabGreatDoor

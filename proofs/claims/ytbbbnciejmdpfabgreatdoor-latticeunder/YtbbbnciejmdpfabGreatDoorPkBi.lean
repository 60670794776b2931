/- What the laws of this seat lean on: 5 texts. -/
import Derived.Test.YtbbbnciejmdpfabGreatDoorPkBh
import Derived.Maps.AppendAt
import Derived.Test.YtbbbnciejmdpfabGreatDoorPkAb
import Derived.Test.YtbbbnciejmdpfabGreatDoorPkAs
import Derived.Test.YtbbbnciejmdpfabGreatDoorPkAa
set_option maxRecDepth 100000
set_option maxHeartbeats 64000000
set_option linter.unusedVariables false
set_option linter.unusedSimpArgs false
namespace Go.Proofs.YtbbbnciejmdpfabGreatDoor
open Go.RowKit
namespace Ow
section
variable {α : Type} {P P' : α -> List Value -> Prop} {sz base e : Nat} {w w' : World} {v : Value} {l : List α}
theorem run_app2 {Pr : Program} {t ty : TypeId} {i : TypeInfo} {n bytes : Nat} (ht : Pr.underlying t = some (.slice e)) (hi : Pr.info? e = some i) (hz : i.zero.map (fun z => z.cells.size) = some sz) (hsize : i.size = sz) (hby : i.bytes = bytes) (hsz : 0 < sz) (hs : Shp P sz)
 (ho : OwnX w base e sz P v l) {v2 : Value} {l2 : List α} (hr : RowX w sz P v2 l2) (h63 : l.length + l2.length <= 1000000) (hb2 : bytes <= 1000) (hbase : base <= w.heap.size) :
 ∃ v' w', (Builtin.append_ #[t, t] ty #[v, v2]).run Pr w = .ok v' w' /\ OwnX w' base e sz P v' (l ++ l2) /\ w.grownBy w' v.ownBlock /\ (v'.ownBlock = v.ownBlock \/ v'.ownBlock = some w.heap.size) := by
 cases hzz : i.zero with
 | none => rw [hzz] at hz; cases hz
 | some z =>
   rw [hzz] at hz; simp at hz; obtain ⟨a, c, rfl, hc, hr⟩ := hr; obtain ⟨news, hf, hown⟩ := ho
   have key : ∀ (ad : Addr) (news2 : List Value), Flat P l2 news2 -> (∀ j u, news2[j]? = some u -> w.cell? (ad.add j) = some u) -> ∃ v' w', (Builtin.append_ #[t, t] ty #[v, .slice (some ad) l2.length c]).run Pr w = .ok v' w' /\ OwnX w' base e sz P v' (l ++ l2) /\ w.grownBy w' v.ownBlock /\ (v'.ownBlock = v.ownBlock \/ v'.ownBlock = some w.heap.size) := by
    intro ad news2 hf2 hc2; have hbb : (l.length + l2.length) * bytes <= 1000000 * 1000 := Nat.mul_le_mul h63 hb2; obtain ⟨v', w', h1, h2, h3, _, h4⟩ := run_append_own_at (P := Pr) w base t ty e i z sz bytes ht hi hzz hsize hby hz hsz v l.length news hown ad l2.length c news2 (hf2.len hs) hc2 (hf2.ones hs) (by unfold maxLen; omega) (by omega) hbase
    exact ⟨v', w', h1, ⟨news ++ news2, hf.app hf2, by rw [List.length_append]; exact h2⟩, h3, h4⟩
   rcases hr with rfl | ⟨b, o, rfl, hlt, hx⟩
   · cases a with
     | some ad => exact key ad [] rfl (by intro j u hj; simp at hj)
     | none =>
       refine ⟨v, w, ?_, ⟨news, by simpa using hf, by simpa using hown⟩, ⟨rfl, rfl, rfl, Nat.le_refl _, fun _ _ _ => rfl⟩, .inl rfl⟩
       rcases hown.2 with ⟨rfl, _⟩ | ⟨g, cap, cur, rfl, _, _, hnc, _⟩
       · simp [Builtin.append_, run_underlying ht, sizeOf, typeInfo, hi, Builtin.lenOf, Builtin.firstCells, loadCells, loadCellsFrom]
       · simp [Builtin.append_, run_underlying ht, sizeOf, typeInfo, hi, Builtin.lenOf, Builtin.firstCells, loadCells, loadCellsFrom, hnc, storeCells]
   · obtain ⟨news2, hf2, hc2⟩ := flat_of hs l2 o hx
     exact key ⟨b, o, none⟩ news2 hf2 (fun j u hj => by rw [Go.WideShapes.add_plain]; exact hc2 j u hj)
theorem wpList_app2 {Pr : Program} {ops : Array Oper} {rest : List Oper} {o : Oper} {a : Act} {Q : Exit -> Act -> World -> Prop} (hgd : o.guard = none) (s x : Operand) (t : TypeId)
 (hop : o.op = .call { callee := .builtin .append, args := #[s, x], argTypes := #[t, t] }) {i : TypeInfo} {bytes : Nat}
 (ht : Pr.underlying t = some (.slice e)) (hi : Pr.info? e = some i) (hz : i.zero.map (fun z => z.cells.size) = some sz) (hsize : i.size = sz) (hby : i.bytes = bytes) (hsz : 0 < sz) (hs : Shp P sz)
 (hv : a.eval s = v) (ho : OwnX w base e sz P v l) {v2 : Value} {l2 : List α} (hv2 : a.eval x = v2) (hr : RowX w sz P v2 l2) (h63 : l.length + l2.length <= 1000000) (hb2 : bytes <= 1000) (hbase : base <= w.heap.size)
 (h : ∀ v' w', OwnX w' base e sz P v' (l ++ l2) -> w.grownBy w' v.ownBlock -> (v'.ownBlock = v.ownBlock \/ v'.ownBlock = some w.heap.size) -> wpList Pr ops Q rest (a.put o.dst v') w') : wpList Pr ops Q (o :: rest) a w := by
 refine wpList_plain hgd fun K hK => ?_; obtain ⟨v', w', hrun, h1, h2, h3⟩ := run_app2 (Pr := Pr) (t := t) (ty := o.type) (n := 0) ht hi hz hsize hby hsz hs ho hr h63 hb2 hbase; unfold Oper.wp execOp; simp only [hop, resolve, invoke, builtin, Sem.run_bind, Sem.run_pure, Result.andThen_ok, List.map_toArray, List.map_cons, List.map_nil, hv, hv2, hrun]; exact hK _ _ (h v' w' h1 h2 h3)
theorem row_grown {α : Type} {w w' : World} {sz : Nat} {P : α -> List Value -> Prop} {b o n c : Nat} {l : List α} {row : Option Nat} (h : RowX w sz P (.slice (some ⟨b, o, none⟩) n c) l) (hb : b < w.heap.size) (hg : w.grownBy w' row) (hne : row ≠ some b) : RowX w' sz P (.slice (some ⟨b, o, none⟩) n c) l := by
 obtain ⟨a', c', e, hc, h⟩ := h; injection e with e1 e2 e3; subst e1; refine ⟨_, _, by rw [e2, e3], hc, ?_⟩
 rcases h with rfl | ⟨b', o', e', hlt, hr⟩
 · exact .inl rfl
 · cases e'
   refine .inr ⟨b, o, rfl, Nat.lt_of_lt_of_le hlt hg.size, fun k x hx => ?_⟩; obtain ⟨ys, h1, h2⟩ := hr k x hx; refine ⟨ys, h1, fun j u hj => ?_⟩; rw [<- h2 j u hj]; have := hg.block b hb (fun e => hne e.symm); unfold World.cell?; simp only [this]
end
end Ow
namespace Hr
theorem above_len {l : List Pp.XCls} (hl : ∀ c ∈ l, c.ifaces.length <= 1000) {c : Pp.XCls} (hc : c ∈ l) : (aboveL c).length <= 1001 := by
 have := hl c hc; unfold aboveL; rw [List.length_append]; cases superL c <;> simp <;> omega
theorem most_le : ∀ {l : List Pp.XCls}, (∀ c ∈ l, c.ifaces.length <= 1000) -> (l.flatMap aboveL).length <= 1001 * l.length
 | [], _ => by simp
 | c :: l, h => by
   have h1 := above_len (l := c :: l) h (c := c) (by simp)
   have h2 := most_le (l := l) fun c hc => h c (by simp [hc])
   rw [List.flatMap_cons, List.length_append, List.length_cons]; omega
end Hr
theorem reach_any (l : List Pp.XCls) (v : Value) (n : Pp.Bs) (w : World) (h : RowX w 6 (ClsX w) v l) (hlen : l.length <= 100) (hif : ∀ c ∈ l, c.ifaces.length <= 1000) (hn : n.length <= maxLen) :
 Calls Tryz.prog 31 #[v, .string ⟨n.toArray⟩] w fun e w' => ∃ v' out, e = .returned v' /\ Ow.OwnX w' w.heap.size 9 1 StrX v' out /\ Hr.RInv l n out out.length /\ Below w.heap.size w w' := by
 obtain ⟨i0, hj1, hj0, hj2, hj3⟩ := Ow.info_of Ow.i_str; have H := hide h; have HIf := hide hif; have HL := hide hlen; obtain ⟨la, lc, rfl, _⟩ := h.len; obtain ⟨m, hm⟩ : ∃ m, m = l.length := ⟨_, rfl⟩; have HM := hide hm; have hmm : m <= 100 := by omega
 rw [<- hm] at H ⊢; have HN := hide hn; have HA := hide (fun wx (hb : Below w.heap.size w wx) (x : Pp.Bs) => RAt_any l (.slice la m lc) x wx (H.out.on hb fun _ _ h => h.on hb) (by unfold maxLen; omega))
 clear h hif hlen hm hn; have HB0 := hide ((Below.refl w.heap.size w).alloc (Nat.le_refl _) (.cells #[.string ⟨n.toArray⟩] 9))
 have HO0 : Hid (Ow.OwnX (w.alloc (.cells #[.string ⟨n.toArray⟩] 9)) w.heap.size 9 1 StrX (.slice (some ⟨w.heap.size, 0, none⟩) 1 1) [n]) := hide
  ⟨_, ⟨[.string ⟨n.toArray⟩], _, rfl, ⟨rfl, HN.out⟩, rfl⟩, rfl, .inr ⟨w.heap.size, 1, _, rfl, Nat.le_refl _, heap_alloc_new w _, Nat.le_refl _, by decide, rfl, rfl⟩⟩
 go_enter Tryz.func31, Tryz.ntmps31; go_wp2_with fail
 go_loopw [5, 6] (fun ov i wr => ∃ (k : Nat) (out : List Pp.Bs), i = .int .i64 k /\ Hid (Below w.heap.size w wr) /\ Hid (Ow.OwnX wr w.heap.size 9 1 StrX ov out) /\ Hid (Hr.RInv l n out k)) (fun ov i _ => Hr.mostL l - (intOf i).toNat)
 case atStart => exact ⟨0, [n], rfl, HB0, HO0, hide (Hr.RInv.start l n)⟩
 case round =>
  obtain ⟨k, out, rfl, HB, HO, HI⟩ := hrel; clear HB0 HO0
  have hfew : out.length <= 100101 := by
   have h1 := HI.out.few; have h2 := Hr.most_le HIf.out; have h3 := HL.out; unfold Hr.mostL at h1; omega
  obtain ⟨oa, oc, rfl⟩ := HO.out.shape; by_cases hlt : k < out.length
  · obtain ⟨x, hx⟩ : ∃ x, out[k]? = some x := ⟨out[k], List.getElem?_eq_getElem _⟩
    obtain ⟨g1, o1, eg1, ys1, hys1, hc1⟩ := Hr.row_at (HO.out.row Ow.shp_str fun _ _ h => h) hx; subst eg1; obtain rfl : ys1 = _ := hys1.1; have r0 := hc1 wr (Below.refl _ _) 0 _ rfl; simp only [Nat.mul_one, Nat.add_zero] at r0; have HX := hide hx; have hkm : k < Hr.mostL l := Nat.lt_of_lt_of_le hlt HI.out.few; obtain ⟨p0, hp0⟩ : ∃ q, q = out.length := ⟨_, rfl⟩; have HP0 := hide hp0; rw [<- hp0] at hlt hfew HO ⊢; have hlt' : (k : Int) < (p0 : Int) := by omega
    have hp1 : (p0 : Int) <= 100101 := by omega
    have HAt := hide (HA.out wr HB.out x); clear hc1 hx hp0 hys1; cases hpl : Hr.placeL l x with
    | none =>
      have HI2 := hide (HI.out.none HX.out hpl); rw [hpl] at HAt; simp only [Hr.placeI] at HAt; clear hpl HI; generalize (⟨x.toArray⟩ : ByteArray) = xb at *
      go_wp2_with fail; refine HAt.out.mono ?_; rintro e w1 ⟨rfl, hb1⟩; have HB1 := hide (HB.out.trans (hb1.mono HB.out.size)); have HO1 := hide (HO.out.on hb1 fun _ _ h => h); clear hb1 r0 HB HO HAt; rw [HP0.out] at HO1; go_wp2_with fail
      go_roundw
      case rel => first | exact ⟨k + 1, out, by go_num, HB1, by rw [HP0.out]; exact HO1, HI2⟩ | ((repeat apply Exists.intro); exact ⟨⟨k + 1, out, by go_num, HB1, by rw [HP0.out]; exact HO1, HI2⟩, rfl⟩)
      case measure => simp [intOf]; omega
    | some q =>
      obtain ⟨c, hcq, -, -⟩ := Hr.placeL_lt hpl; have HPL := hide hpl; have HCQ := hide hcq; have hqm : q < m := by rw [HM.out]; exact (List.getElem?_eq_some_iff.1 hcq).1
      obtain ⟨g2, o2, eg2, ys2, w2', hc2⟩ := Hr.row_at H.out hcq; subst eg2; have hif1 := HIf.out c (List.mem_of_getElem? hcq); have HAb := hide (fun wx (hb : Below w.heap.size w wx) => above_any c ys2 wx (w2'.on hb) hif1); have HC2 := hide hc2; have HAL : Hid ((Hr.aboveL c).length <= 1001) := hide (Hr.above_len HIf.out (List.mem_of_getElem? hcq)); rw [hpl] at HAt; simp only [Hr.placeI] at HAt; obtain ⟨va1, vd1, va2, vd2, va3, vd3, rfl⟩ := Hr.at_c w2'; clear hpl hcq w2' hc2 hif1; generalize (⟨x.toArray⟩ : ByteArray) = xb at *
      have hqm' : (q : Int) < (m : Int) := by omega
      have hmm' : (m : Int) <= 100 := by omega
      go_wp2_with fail; refine HAt.out.mono ?_; rintro e w1 ⟨rfl, hb1⟩; have HB1 := hide (HB.out.trans (hb1.mono HB.out.size)); have HO1 := hide (HO.out.on hb1 fun _ _ h => h); have hr := HC2.out w1 HB1.out; have r10 := hr 0 _ rfl; have r11 := hr 1 _ rfl; have r12 := hr 2 _ rfl; have r13 := hr 3 _ rfl; have r14 := hr 4 _ rfl; have r15 := hr 5 _ rfl; rw [Nat.add_zero] at r10; clear hb1 hr r0 HB HO HAt; go_wp2_with fail; refine (HAb.out w1 HB1.out).mono ?_; rintro e w3 ⟨vn, rfl, hon, hb3⟩; have HB3 := hide (HB1.out.trans (hb3.mono HB1.out.size)); have HO3 := hide (HO1.out.on hb3 fun _ _ h => h); obtain ⟨p, hp⟩ : ∃ p, p = (Hr.aboveL c).length := ⟨_, rfl⟩; have HP := hide hp; rw [<- hp] at HAL; have hp1001 : p <= 1001 := HAL.out
      obtain ⟨nb, nc, HNe, HNR⟩ : ∃ (nb : Option Addr) (nc : Nat), Hid (vn = .slice nb p nc) /\ Hid (p = 0 \/ ∃ b, nb = some ⟨b, 0, none⟩ /\ b < w3.heap.size /\ (Value.slice (some ⟨g1, o1, none⟩) p0 oc).ownBlock ≠ some b /\ RowX w3 1 StrX (.slice (some ⟨b, 0, none⟩) p nc) (Hr.aboveL c)) := by
       have hrow := hon.row Ow.shp_str fun _ _ h => h; obtain ⟨news, hf, hown⟩ := hon
       rcases hown.2 with ⟨rfl, h0⟩ | ⟨g, cap, cur, rfl, hgb, hg, _⟩
       · exact ⟨none, 0, hide (by rw [hp, h0]), hide (.inl (by rw [hp, h0]))⟩
       · refine ⟨some ⟨g, 0, none⟩, cap, hide (by rw [hp]), hide (.inr ⟨g, rfl, Ow.lt_of_blk hg, ?_, by rw [hp]; exact hrow⟩)⟩
         intro he; obtain ⟨news', _, hown'⟩ := HO1.out; obtain ⟨c', hc'⟩ := Ow.own_at hown' g he; have := Ow.lt_of_blk hc'; omega
      have hvn := HNe.out; subst hvn; clear HNe hon hb3 hp r10 r11 r12 r13 r14 r15 HO1; have HI3 := hide (HI.out.mid HX.out c); obtain ⟨vo, hvo⟩ : ∃ v, v = Value.slice (some ⟨g1, o1, none⟩) p0 oc := ⟨_, rfl⟩; rw [<- hvo] at HO3 HNR; go_wp2_with fail; rw [<- hvo]; clear hvo
      go_loopw [5, 9] (fun ov i wr => ∃ (j : Nat) (out : List Pp.Bs), j <= p /\ i = .int .i64 j /\ Hid (Below w.heap.size w wr) /\ Hid (Ow.OwnX wr w.heap.size 9 1 StrX ov out) /\ Hid (Hr.RMid l n out k x c j) /\ Hid (p = 0 \/ ∃ b, nb = some ⟨b, 0, none⟩ /\ b < wr.heap.size /\ ov.ownBlock ≠ some b /\ RowX wr 1 StrX (.slice (some ⟨b, 0, none⟩) p nc) (Hr.aboveL c))) (fun ov i _ => p - (intOf i).toNat)
      case atStart => exact ⟨0, out, Nat.zero_le _, rfl, HB3, by rw [HP0.out] at *; exact HO3, HI3, HNR⟩
      case round =>
       obtain ⟨j, out2, hj, rfl, HB4, HO4, HM4, HN4⟩ := hrel; clear HB3 HO3 HNR HI3 HI
       have hfw2 : out2.length <= 100101 := by
        have h1 := HM4.out.inv.few; have h2 := Hr.most_le HIf.out; have h3 := HL.out; unfold Hr.mostL at h1; omega
       by_cases hlj : j < p
       · obtain ⟨y, hy⟩ : ∃ y, (Hr.aboveL c)[j]? = some y := ⟨(Hr.aboveL c)[j]'(by rw [<- HP.out]; exact hlj), List.getElem?_eq_getElem _⟩
         obtain ⟨b, hnb, hbs, hob, hrw⟩ := HN4.out.resolve_left (by omega)
         subst hnb; obtain ⟨g5, o5, eg5, ys5, hys5, hc5⟩ := Hr.row_at hrw hy; cases eg5; obtain rfl : ys5 = _ := hys5.1; have HYl := hide hys5.2; have HHs := hide (fun wx (hb : Below wr.heap.size wr wx) => hb); have r0 := hc5 wr (Below.refl _ _) 0 _ rfl; simp only [Nat.mul_one, Nat.add_zero, Nat.zero_add] at r0; have HY := hide hy; have HC5 := hide (fun wx (hb : Below wr.heap.size wr wx) => by have := hc5 wx hb 0 _ rfl; simp only [Nat.mul_one, Nat.add_zero, Nat.zero_add] at this; exact this)
         have HOB := hide hob; have HRW := hide hrw; have hlj' : (j : Int) < (p : Int) := by omega
         have hpi : (p : Int) <= 1001 := by omega
         obtain ⟨a5, c5, rfl⟩ := HO4.out.shape; have HHas := hide (has_any out2 (.slice a5 out2.length c5) y wr (HO4.out.row Ow.shp_str fun _ _ h => h) (by unfold maxLen; omega))
         clear hc5 hy hys5 hob hrw HN4; by_cases hm : y ∈ out2
         · have HM5 := hide (HM4.out.skip HY.out hm)
           rw [decide_eq_true hm] at HHas; clear hm HM4; generalize (⟨y.toArray⟩ : ByteArray) = yb at *
           go_wp2_with fail; refine HHas.out.mono ?_; rintro e w6 ⟨rfl, hb6⟩; have HB6 := hide (HB4.out.trans (hb6.mono HB4.out.size)); have HO6 := hide (HO4.out.on hb6 fun _ _ h => h); have HN6 : Hid (p = 0 \/ ∃ b', some (⟨b, 0, none⟩ : Addr) = some ⟨b', 0, none⟩ /\ b' < w6.heap.size /\ (Value.slice a5 out2.length c5).ownBlock ≠ some b' /\ RowX w6 1 StrX (.slice (some ⟨b', 0, none⟩) p nc) (Hr.aboveL c)) := hide (.inr ⟨b, rfl, Nat.lt_of_lt_of_le hbs hb6.size, HOB.out, HRW.out.on hb6 fun _ _ h => h⟩); clear hb6 r0 HHas HO4 HB4; go_wp2_with fail
           go_roundw
           case rel => first | exact ⟨j + 1, out2, by omega, by go_num, HB6, HO6, HM5, HN6⟩ | ((repeat apply Exists.intro); exact ⟨⟨j + 1, out2, by omega, by go_num, HB6, HO6, HM5, HN6⟩, rfl⟩)
           case measure => simp [intOf]; omega
         · have HM5 := hide (HM4.out.push HPL.out HCQ.out HY.out hm)
           rw [decide_eq_false hm] at HHas; clear hm HM4; obtain ⟨p2, hp2⟩ : ∃ q, q = out2.length := ⟨_, rfl⟩; have HP2 := hide hp2; rw [<- hp2] at HHas HO4 hfw2 HOB ⊢; clear hp2; go_wp2_with fail; refine HHas.out.mono ?_; rintro e w6 ⟨rfl, hb6⟩; have r1 := HC5.out w6 hb6; have hA := hb6.trans (((Below.refl _ _).alloc (Nat.le_refl _) (.cells #[.string ⟨y.toArray⟩] 9)).mono hb6.size); have HA6 := hide hA; have HB6 := hide (HB4.out.trans (hA.mono HB4.out.size)); have HO6 : Hid (Ow.OwnX (w6.alloc (.cells #[.string ⟨y.toArray⟩] 9)) w.heap.size 9 1 StrX (.slice a5 p2 c5) out2) := hide (HO4.out.on hA fun _ _ h => h); have HR6 : Hid (RowX (w6.alloc (.cells #[.string ⟨y.toArray⟩] 9)) 1 StrX (.slice (some ⟨w6.heap.size, 0, none⟩) 1 1) [y]) := hide (Hr.row_one (heap_alloc_new w6 _) ⟨rfl, HYl.out⟩); have HS6 : Hid (wr.heap.size <= (w6.alloc (.cells #[.string ⟨y.toArray⟩] 9)).heap.size) := hide hA.size; have HS7 := hide hb6.size; clear hb6 hA r0 HHas HO4
           go_wp2_with (at_builtin; refine Ow.wpList_app2 rfl (.tmp 44) (.tmp 49) 29 rfl Tryz.underlying29 hj1 hj0 hj2 hj3 (by decide) Ow.shp_str rfl HO6.out rfl HR6.out ?c1 (by decide) HB6.out.size ?_)
           case c1 => rw [<- HP2.out]; simp; omega
           · intro v' w10 hown hgrow hob10
             have HB10 := hide (HB6.out.trans (Ow.bel_grown HO6.out HB6.out.size hgrow)); have HO10 := hide hown
             have HN10 : Hid (p = 0 \/ ∃ b', some (⟨b, 0, none⟩ : Addr) = some ⟨b', 0, none⟩ /\ b' < w10.heap.size /\ v'.ownBlock ≠ some b' /\ RowX w10 1 StrX (.slice (some ⟨b', 0, none⟩) p nc) (Hr.aboveL c)) := hide (by
              have hs6 := HS6.out; have hs7 := HS7.out; refine .inr ⟨b, rfl, by have := hgrow.size; omega, ?_, Ow.row_grown (HRW.out.on HA6.out fun _ _ h => h) (by omega) hgrow HOB.out⟩
              rcases hob10 with h | h
              · rw [h]; exact HOB.out
              · rw [h]; intro he; injection he with he; omega)
             clear hown hgrow hob10 HO6 HR6 HB6 r1; go_wp2_with fail
             go_roundw
             case rel => first | exact ⟨j + 1, _, by omega, by go_num, HB10, HO10, HM5, HN10⟩ | ((repeat apply Exists.intro); exact ⟨⟨j + 1, _, by omega, by go_num, HB10, HO10, HM5, HN10⟩, rfl⟩)
             case measure => simp [intOf]; omega
       · have HI4 := hide (HM4.out.stop HPL.out HCQ.out (by rw [<- HP.out]; omega))
         have hnl : ¬ ((j : Int) < (p : Int)) := by omega
         clear HM4 HN4; go_wp2_with fail
         go_roundw
         case rel => first | exact ⟨k + 1, out2, by go_num, HB4, HO4, HI4⟩ | ((repeat apply Exists.intro); exact ⟨⟨k + 1, out2, by go_num, HB4, HO4, HI4⟩, rfl⟩)
         case measure => simp [intOf]; omega
  · have hk : k = out.length := by have := HI.out.low; omega
    subst hk; go_wp2_with fail; go_ret; exact ⟨_, _, rfl, HO.out, HI.out, HB.out⟩
namespace Pp
def GW (w : Wd) : Prop := Lx.wordA ⟨w.kind, w.text, w.num, 0⟩ = some (wtx w)
def GWs (n : Nat) (ws : List Wd) : Prop := (∀ w ∈ ws, GW w) /\ ws.length <= n
theorem gw_nm {s : Bs} (h : Lx.nameL s = true) : GW (nm s) := by simp [GW, nm, Lx.wordA, wtx, h]
theorem gw_sg {s : Bs} (h : Lx.signL s = true) : GW (sg s) := by simp [GW, sg, Lx.wordA, wtx, h]
theorem gws_one {w : Wd} (h : GW w) : GWs 1 [w] := ⟨by simp [h], by simp⟩
theorem gws_cons {n : Nat} {w : Wd} {ws : List Wd} (h : GW w) (hs : GWs n ws) : GWs (n + 1) (w :: ws) := ⟨by intro x hx; simp at hx; rcases hx with rfl | hx; exact h; exact hs.1 x hx, by simp; exact hs.2⟩
theorem gws_mono {n m : Nat} {a : List Wd} (h : GWs n a) (hn : n <= m) : GWs m a := ⟨h.1, by have := h.2; omega⟩
theorem gw_ty {t : Ty} (h : okTy t) : GWs 3 (tyW t) := by
 obtain ⟨k, n⟩ := t; have hi : GW (nm wInt) := gw_nm (by decide)
 have hv : GW (nm wVoid) := gw_nm (by decide)
 have hl : GW (sg wLK) := gw_sg (by decide)
 have hr : GW (sg wRK) := gw_sg (by decide)
 unfold tyW
 rcases h with ⟨h, _⟩ | ⟨h, h2⟩
 · simp only at h
   rcases h with rfl | rfl | rfl
   · exact gws_mono (gws_one hv) (by omega)
   · exact gws_mono (gws_one hi) (by omega)
   · exact gws_cons hi (gws_cons hl (gws_one hr))
 · simp only at h h2
   rcases h with rfl | rfl
   · exact gws_mono (gws_one (gw_nm h2.1)) (by omega)
   · exact gws_cons (gw_nm h2.1) (gws_cons hl (gws_one hr))
end Pp
namespace Pp
def typeT (t : Ty) : Bs := if typeB t = true then ((tyW t).map wtx).flatten else []
end Pp
namespace Sh
theorem wtx_nm (s : Pp.Bs) : Pp.wtx (Pp.nm s) = s := rfl
theorem wtx_sg (s : Pp.Bs) : Pp.wtx (Pp.sg s) = s := rfl
theorem str_sz (a : List UInt8) : (⟨a.toArray⟩ : ByteArray).size = a.length := by simp [ByteArray.size]
end Sh
theorem refDigit_any (c : Int) (w : World) :
 Calls Tryz.prog 79 #[.int .u8 c] w fun e w' => e = .returned (.bool (Lx.digI c)) /\ w' = w := by
 go_enter Tryz.func79, Tryz.ntmps79; go_wp2
 all_goals (go_ret; exact ⟨ret_bool (by simp [Lx.digI]; omega), rfl⟩)
theorem refLetter_any (c : Int) (w : World) :
 Calls Tryz.prog 78 #[.int .u8 c] w fun e w' => e = .returned (.bool (Lx.ltrI c)) /\ w' = w := by
 go_enter Tryz.func78, Tryz.ntmps78; go_wp2
 all_goals (go_ret; exact ⟨ret_bool (by simp [Lx.ltrI]; try omega), rfl⟩)
theorem refName_any (s : ByteArray) (hs : s.size <= maxLen) (w : World) :
 Calls Tryz.prog 66 #[.string s] w fun e w' => e = .returned (.bool (Lx.nameL s.data.toList)) /\ w' = w := by
 unfold maxLen at hs; by_cases h1 : s.size < 1
 · have Hf := Lx.nameL_short s h1
   rw [Hf]; clear Hf; go_enter Tryz.func66, Tryz.ntmps66; go_wp2; go_ret; exact ⟨rfl, rfl⟩
 by_cases h20 : 20 < s.size
 · have Hf := Lx.nameL_long s h20
   rw [Hf]; clear Hf; go_enter Tryz.func66, Tryz.ntmps66; go_wp2; go_ret; exact ⟨rfl, rfl⟩
 have Hf := Lx.nameL_mid s (by omega) (by omega)
 rw [Hf]; clear Hf; have h1' : 0 < s.size := by omega
 obtain ⟨R, hR⟩ : ∃ R : Bool, R = (!Lx.dig s[0] && s.data.toList.all Lx.inw) := ⟨_, rfl⟩; rw [<- hR]; have HR : Hid (R = (!Lx.dig s[0] && s.data.toList.all Lx.inw)) := hR; clear hR; have hmem : ∀ k, ∀ h : k < s.size, s[k] ∈ s.data.toList := fun k h => by simp [ByteArray.getElem_eq_getElem_data]
 have HM : Hid (∀ k, ∀ h : k < s.size, s[k] ∈ s.data.toList) := hmem; clear hmem; cases hd : Lx.ltr s[0] with
 | false =>
   have hd' : Lx.ltrI (s[0].toNat : Int) = false := hd
   have HF : Hid (R = false) := by
    show _ = _; rw [HR.out, Bool.eq_false_iff]; intro h; rw [Bool.and_eq_true] at h; have hi := List.all_eq_true.1 h.2 s[0] (HM.out 0 h1'); rw [Lx.let_inw, h.1, hi] at hd; cases hd
   clear hd; go_enter Tryz.func66, Tryz.ntmps66
   go_wp2_with (go_at_call 78; refine (refLetter_any _ _).mono ?_; rintro e w' ⟨rfl, rfl⟩)
   go_ret; exact ⟨ret_bool (by rw [HF.out]), rfl⟩
 | true =>
   have hd' : Lx.ltrI (s[0].toNat : Int) = true := hd; rw [Lx.let_inw, Bool.and_eq_true] at hd; have HF : Hid (R = s.data.toList.all Lx.inw) := by show _ = _; rw [HR.out, hd.1]; rfl
   have H1 : Hid ((s.data.toList.take 1).all Lx.inw = true) := by
    show _ = _; have := Lx.take_snoc s 0 h1'; rw [show 0 + 1 = 1 from rfl] at this
    rw [this]; simp [hd.2]
   clear hd HR; go_enter Tryz.func66, Tryz.ntmps66
   go_wp2_with (go_at_call 78; refine (refLetter_any _ _).mono ?_; rintro e w' ⟨rfl, rfl⟩)
   clear hd'
   go_loop [3] (fun i => ∃ k : Nat, 1 <= k /\ k <= s.size /\ i = .int .i64 k /\ Hid ((s.data.toList.take k).all Lx.inw = true)) (fun i => s.size - (intOf i).toNat)
   case atStart => exact ⟨1, by omega, by omega, rfl, H1⟩
   case round =>
    obtain ⟨k, hk1, hk, rfl, HA⟩ := hrel; clear H1; by_cases hlt : k < s.size
    · have hts := Lx.take_snoc s k hlt
      have HT : Hid ((s.data.toList.take (k + 1)).all Lx.inw = ((s.data.toList.take k).all Lx.inw && Lx.inw s[k])) := by rw [hts]; exact Lx.all_snoc _ _ _
      clear hts; cases hl : Lx.ltr s[k] with
      | true =>
        have hl' : Lx.ltrI (s[k].toNat : Int) = true := hl; have HW : Hid (Lx.inw s[k] = true) := by show _ = _; rw [Lx.inw_let, hl]; rfl
        clear hl
        go_wp2_with (go_at_call 78; refine (refLetter_any _ _).mono ?_; rintro e w' ⟨rfl, rfl⟩)
        go_round
        case rel => exact ⟨k + 1, by omega, by omega, by go_num, by show _ = _; rw [HT.out, HA.out, HW.out]; rfl⟩
        case measure => simp [intOf]; omega
      | false =>
        have hl' : Lx.ltrI (s[k].toNat : Int) = false := hl; cases hg : Lx.dig s[k] with
        | true =>
          have hg' : Lx.digI (s[k].toNat : Int) = true := hg; have HW : Hid (Lx.inw s[k] = true) := by show _ = _; rw [Lx.inw_let, hl, hg]; rfl
          clear hl hg
          go_wp2_with (first | (go_at_call 78; refine (refLetter_any _ _).mono ?_; rintro e w' ⟨rfl, rfl⟩) | (go_at_call 79; refine (refDigit_any _ _).mono ?_; rintro e w' ⟨rfl, rfl⟩))
          go_round
          case rel => exact ⟨k + 1, by omega, by omega, by go_num, by show _ = _; rw [HT.out, HA.out, HW.out]; rfl⟩
          case measure => simp [intOf]; omega
        | false =>
          have hg' : Lx.digI (s[k].toNat : Int) = false := hg
          have HN : Hid (s.data.toList.all Lx.inw = false) := by
           show _ = _; rw [Bool.eq_false_iff]; intro h; have := List.all_eq_true.1 h s[k] (HM.out k hlt); rw [Lx.inw_let, hl, hg] at this; cases this
          clear hl hg
          go_wp2_with (first | (go_at_call 78; refine (refLetter_any _ _).mono ?_; rintro e w' ⟨rfl, rfl⟩) | (go_at_call 79; refine (refDigit_any _ _).mono ?_; rintro e w' ⟨rfl, rfl⟩))
          go_ret; exact ⟨ret_bool (by rw [HF.out, HN.out]), rfl⟩
    · have HN : Hid (s.data.toList.all Lx.inw = true) := by
       show _ = _; rw [<- HA.out, List.take_of_length_le (by simp; omega)]
      go_wp2; go_ret; exact ⟨ret_bool (by rw [HF.out, HN.out]), rfl⟩
theorem refKept_any (s : List UInt8) (w : World) :
 Calls Tryz.prog 67 #[.string ⟨s.toArray⟩] w fun e w' => e = .returned (.bool (Pp.keptL s)) /\ Below w.heap.size w w' := by
 obtain ⟨K, hK⟩ : ∃ K, K = Pp.keptWords := ⟨_, rfl⟩; have hL : Hid (K.length = 12) := by rw [hK]; exact hide rfl
 have hg : Hid (Pp.keptL s = K.any (· == s)) := by rw [hK]; rfl
 go_enter Tryz.func67, Tryz.ntmps67; go_wp2; generalize hA : (#[_, _, _, _, _, _, _, _, _, _, _, _] : Array Value) = A; have hAK : A = (K.map fun t => Value.string ⟨t.toArray⟩).toArray := by rw [<- hA, hK]; rfl
 clear hA hK
 have hAt : ∀ k, k < 12 -> A[k]? = some (.string ⟨(K.getD k []).toArray⟩) := by
  intro k hk; rw [hAK]; simp [List.getD, show k < K.length by have := hL.out; omega]
 clear hAK
 go_loop [4] (fun i => ∃ k : Nat, k <= 12 /\ i = .int .i64 k /\ Hid ((K.take k).any (· == s) = false)) (fun i => 12 - (intOf i).toNat)
 case atStart => exact ⟨0, by omega, rfl, rfl⟩
 case round =>
  obtain ⟨k, hk, rfl, hp⟩ := hrel; by_cases hlt : k < 12
  · have hix : (w.alloc (.cells A 9)).cell? ⟨w.heap.size, k, none⟩ = some (.string ⟨(K.getD k []).toArray⟩) := (cell_box (heap_alloc_new w _) k).trans (hAt k hlt)
    clear hAt; obtain ⟨t, htt⟩ : ∃ t, t = K.getD k [] := ⟨_, rfl⟩; rw [<- htt] at hix; have HT := hide htt; clear htt; have hlt' : (k : Int) < 12 := by omega
    by_cases hts : t = s
    · have hr := hide (hg.out.trans (Pp.any_at K s t k (by rw [hL.out]; exact hlt) HT.out hts))
      subst hts; go_wp2; go_ret; rw [hr.out]; exact ⟨rfl, (Below.refl _ _).alloc (Nat.le_refl _) _⟩
    · have hr := hide (Pp.any_step K s t k (by rw [hL.out]; exact hlt) HT.out hts hp.out)
      have hne : (t == s) = false := by simp [hts]
      go_wp2
      go_round
      case rel => exact ⟨k + 1, by omega, by go_num, hr⟩
      case measure => simp [intOf]; omega
  · have hr := hide (hg.out.trans (Pp.any_end K s k (by rw [hL.out]; exact hlt) hp.out))
    clear hAt; go_wp2; go_ret; rw [hr.out]; exact ⟨rfl, (Below.refl _ _).alloc (Nat.le_refl _) _⟩
end Go.Proofs.YtbbbnciejmdpfabGreatDoor

/- What the laws of this seat lean on: 1 texts. -/
import Derived.Test.YtjlappamkfjlkaaGreatDoorPkAt
set_option maxRecDepth 100000
set_option maxHeartbeats 64000000
set_option linter.unusedVariables false
set_option linter.unusedSimpArgs false
namespace Go.Proofs.YtjlappamkfjlkaaGreatDoor
open Go.RowKit
theorem Ly.own_self {ms : List Pp.XMth} {k : Nat} {m : Pp.XMth} (hx : ms[k]? = some m) : ((ms.take k).any (fun y => m.name == y.name) = false -> Ly.ownI (Ly.ownP ms m.name) = (k : Int)) /\ ((ms.take k).any (fun y => m.name == y.name) = true -> Ly.ownI (Ly.ownP ms m.name) ≠ (k : Int)) := by
 have hsw : ((ms.take k).any fun y => m.name == y.name) = ((ms.take k).any fun y => y.name == m.name) := by
  congr 1
  funext y
  exact Bool.eq_iff_iff.2 ⟨fun h => by simpa using (by simpa using h : m.name = y.name).symm, fun h => by simpa using (by simpa using h : y.name = m.name).symm⟩
 refine ⟨fun h => ?_, fun h => ?_⟩
 · rw [hsw] at h
   rw [Ly.own_take h hx rfl]
   rfl
 · intro he
   obtain ⟨y, hy, hn⟩ := List.any_eq_true.1 h; cases ho : Ly.ownP ms m.name with
   | none => rw [ho] at he; exact absurd he (by show (-1 : Int) ≠ (k : Int); omega)
   | some q =>
     rw [ho] at he
     have hqk : q = k := by
      have he : (q : Int) = (k : Int) := he; omega
     subst hqk; unfold Ly.ownP at ho; obtain ⟨h1, h2, h3⟩ := List.findIdx?_eq_some_iff_getElem.1 ho; obtain ⟨j, hj1, hj2⟩ := List.mem_iff_getElem.1 hy; rw [List.length_take] at hj1; rw [List.getElem_take] at hj2; have := h3 j (by omega)
     rw [hj2] at this; have hn2 : m.name = y.name := by simpa using hn
     rw [hn2] at this; simp at this
theorem membersA_any (l : List Pp.XCls) (v : Value) (c : Pp.XCls) (cs : List Value) (w : World) (hr : RowX w 6 (ClsX w) v l) (hl : l.length <= 1000) (h : ClsX w c cs) (hf : c.fields.length <= 100) (hm : c.methods.length <= 100) (hp : ∀ m ∈ c.methods, m.params.length <= 100) :
 Calls Tryz.prog 36 #[v, .agg cs.toArray] w fun e w' => e = .returned (.int .i64 (Ly.memG l c)) /\ Below w.heap.size w w' := by
 obtain ⟨ia, ic, fa, fc, ma, mc, rfl, x1, x2, x3⟩ := cls_open h; have HRf := hide x2; have HRm := hide x3; have HPm := hide hp; have HNa := hide (fun wx (hb : Below w.heap.size w wx) t ts ht => named_any l v t ts wx (hr.on hb fun _ _ h => h.on hb) hl ht); have HCw := hide h; obtain ⟨va, vc, rfl, _⟩ := hr.len; generalize l.length = nl at *
 clear x1 x2 x3 h hp hr; obtain ⟨r, hr⟩ : ∃ r, r = Ly.memG l c := ⟨_, rfl⟩
 have HForm : Hid ((c.methods.all (Ly.mOkG c) = false \/ c.fields.all (Ly.fOkG c) = false) -> r = 4) := hide fun h => by
  rw [hr]; unfold Ly.memG; rw [if_neg]; rintro ⟨h1, h2⟩
  rcases h with h | h
  · rw [h1] at h; cases h
  · rw [h2] at h; cases h
 have HTwi : Hid (c.methods.all (Ly.mOkG c) = true -> c.fields.all (Ly.fOkG c) = true -> ¬ ((c.fields.map (·.name)).Nodup /\ (c.methods.map (·.name)).Nodup) -> r = 6) := hide fun h1 h2 h3 => by
  rw [hr]; unfold Ly.memG; rw [if_pos ⟨h1, h2⟩, if_neg h3]
 have HNon : Hid (c.methods.all (Ly.mOkG c) = true -> c.fields.all (Ly.fOkG c) = true -> (c.fields.map (·.name)).Nodup -> (c.methods.map (·.name)).Nodup -> (c.fields.all (fun f => Ly.namedG l f.ty) = false \/ c.methods.all (Ly.mNamG l) = false) -> r = 5) := hide fun h1 h2 h3 h4 h5 => by
  rw [hr]; unfold Ly.memG; rw [if_pos ⟨h1, h2⟩, if_pos ⟨h3, h4⟩, if_neg]; rintro ⟨e1, e2⟩
  rcases h5 with h | h
  · rw [e1] at h; cases h
  · rw [e2] at h; cases h
 have HOkk : Hid (c.methods.all (Ly.mOkG c) = true -> c.fields.all (Ly.fOkG c) = true -> (c.fields.map (·.name)).Nodup -> (c.methods.map (·.name)).Nodup -> c.fields.all (fun f => Ly.namedG l f.ty) = true -> c.methods.all (Ly.mNamG l) = true -> r = 0) := hide fun h1 h2 h3 h4 h5 h6 => by
  rw [hr]; unfold Ly.memG; rw [if_pos ⟨h1, h2⟩, if_pos ⟨h3, h4⟩, if_pos ⟨h5, h6⟩]
 rw [<- hr]; clear hr; obtain ⟨nf, hnf⟩ : ∃ q, q = c.fields.length := ⟨_, rfl⟩; obtain ⟨nm, hnm⟩ : ∃ q, q = c.methods.length := ⟨_, rfl⟩; obtain ⟨fi, hfi⟩ : ∃ q, q = c.iface := ⟨_, rfl⟩; obtain ⟨NB, hNB⟩ : ∃ q : ByteArray, q = ⟨c.name.toArray⟩ := ⟨_, rfl⟩; obtain ⟨SB, hSB⟩ : ∃ q : ByteArray, q = ⟨c.super.toArray⟩ := ⟨_, rfl⟩; obtain ⟨ni, hni⟩ : ∃ q, q = c.ifaces.length := ⟨_, rfl⟩; have HNf := hide hnf; have HNm := hide hnm; have HFi := hide hfi; rw [<- hnf] at HRf hf HCw ⊢; rw [<- hnm] at HRm hm HCw ⊢; rw [<- hfi] at HCw ⊢; rw [<- hNB] at HCw ⊢; rw [<- hSB] at HCw ⊢; rw [<- hni] at HCw ⊢; clear hnf hnm hfi hNB hSB hni; have hf1 : (nf : Int) <= 100 := by omega
 have hm1 : (nm : Int) <= 100 := by omega
 have HB0 := hide ((Below.refl w.heap.size w).alloc (Nat.le_refl _) (.cells #[.string NB, .bool fi, .string SB, .slice ia ni ic, .slice fa nf fc, .slice ma nm mc] 59)); have HX0 := hide (heap_alloc_new w (.cells #[.string NB, .bool fi, .string SB, .slice ia ni ic, .slice fa nf fc, .slice ma nm mc] 59)); cases fi with
 | false =>
   go_enter Tryz.func36, Tryz.ntmps36; go_wp2_with fail; generalize w.alloc (.cells #[.string NB, .bool false, .string SB, .slice ia ni ic, .slice fa nf fc, .slice ma nm mc] 59) = wa at *
   go_loopw [5] (fun i wr => ∃ k : Nat, k <= nm /\ i = .int .i64 k /\ Hid (Below wa.heap.size wa wr) /\ Hid ((c.methods.take k).all (Ly.mOkG c) = true)) (fun i _ => nm - (intOf i).toNat)
   case atStart => exact ⟨0, Nat.zero_le _, rfl, hide (Below.refl _ _), hide (by simp)⟩
   case round =>
    obtain ⟨k, hk, rfl, HB, HA⟩ := hrel; have HBw := hide (HB0.out.trans (HB.out.mono HB0.out.size)); have hX1 := (HB.out.block _ (Ow.lt_of_blk HX0.out)).trans HX0.out; have c5 := cell_box hX1 5; have c1 := cell_box hX1 1; by_cases hlt : k < nm
    ·
     obtain ⟨m, hx⟩ : ∃ x, c.methods[k]? = some x := ⟨c.methods[k]'(by rw [<- HNm.out]; exact hlt), List.getElem?_eq_getElem _⟩
     obtain ⟨g, o, rfl, ys, wf, hc⟩ := Ow.row_at' HRm.out hx; have hG := hide (hc wr HBw.out); have HXm := hide hx; have hmp := HPm.out m (List.mem_of_getElem? hx); clear hc hx; obtain ⟨vp, vc, vk, rfl, z1, z2, z3, _, hrl, _⟩ := wf; have HRp := hide z1; have HRl := hide hrl; obtain ⟨ap, cp, rfl, _⟩ := z1.len; obtain ⟨ac, cc, rfl, _⟩ := z2.len; obtain ⟨ak, ck, rfl, _⟩ := z3.len; clear z1 z2 z3 hrl; have r0 := hG.out 0 _ rfl; have r1 := hG.out 1 _ rfl; have r2 := hG.out 2 _ rfl; have r3 := hG.out 3 _ rfl; have r4 := hG.out 4 _ rfl; have r5 := hG.out 5 _ rfl; have r6 := hG.out 6 _ rfl; have r7 := hG.out 7 _ rfl; have r8 := hG.out 8 _ rfl; rw [Nat.add_zero] at r0; clear hG; obtain ⟨np, hnp⟩ : ∃ q, q = m.params.length := ⟨_, rfl⟩; have HNp := hide hnp; rw [<- hnp] at r3 HRp hmp; clear hnp; have hp1 : (np : Int) <= 100 := by omega
     have hlt' : (k : Int) < (nm : Int) := by omega
     obtain ⟨st, hst0⟩ : ∃ q, q = m.stat := ⟨_, rfl⟩; obtain ⟨ab, hab0⟩ : ∃ q, q = m.abst := ⟨_, rfl⟩; have HSt := hide hst0; have HAb := hide hab0; rw [<- hst0] at r1; rw [<- hab0] at r2; have c5a := c5; clear hst0 hab0; have hXA : ∀ (B : Obj), (wr.alloc B).heap[w.heap.size]? = some (.cells #[.string NB, .bool false, .string SB, .slice ia ni ic, .slice fa nf fc, .slice (some ⟨g, o, none⟩) nm mc] 59 (0, 0)) := fun B => (((Below.refl wr.heap.size wr).alloc (Nat.le_refl _) B).block _ (Ow.lt_of_blk hX1)).trans hX1; have e1 := fun B => cell_box (hXA B) 1; have hcases : (ab = true /\ st = true) \/ (ab = true /\ st = false) \/ (ab = false /\ st = true) \/ (ab = false /\ st = false) := by cases ab <;> cases st <;> simp
     clear hXA hX1
     rcases hcases with ⟨hab, hst⟩ | ⟨hab, hst⟩ | ⟨hab, hst⟩ | ⟨hab, hst⟩
     · obtain ⟨rfl, rfl⟩ : ab = true /\ st = true := ⟨hab, hst⟩
       have hA : Below wr.heap.size wr (wr.alloc (.cells #[.string ⟨m.name.toArray⟩, .bool true, .bool true, .slice ap np cp, .int .i64 m.ret.kind, .string ⟨m.ret.name.toArray⟩, .int .i64 m.locals, .slice ac m.code.length cc, .slice ak m.catches.length ck] 39)) := (Below.refl _ _).alloc (Nat.le_refl _) _; have HBA := hide (HB.out.trans (hA.mono HB.out.size)); have hbx := heap_alloc_new wr (.cells #[.string ⟨m.name.toArray⟩, .bool true, .bool true, .slice ap np cp, .int .i64 m.ret.kind, .string ⟨m.ret.name.toArray⟩, .int .i64 m.locals, .slice ac m.code.length cc, .slice ak m.catches.length ck] 39); have HBx := hide hbx; have b0 := cell_box hbx 0; have b1 := cell_box hbx 1; have b2 := cell_box hbx 2; have b3 := cell_box hbx 3; have b4 := cell_box hbx 4; have b5 := cell_box hbx 5; have b6 := cell_box hbx 6; have b7 := cell_box hbx 7; have b8 := cell_box hbx 8; clear hA hbx
       have HF : Hid (r = 4) := hide (HForm.out (.inl (Ly.all_stop (p := Ly.mOkG c) HXm.out (by
        unfold Ly.mOkG; rw [<- HFi.out, <- HAb.out, <- HSt.out]
        rfl))))
       clear HA; go_wp2_with fail; go_ret; exact ⟨by rw [HF.out]; rfl, HB0.out.trans (HBA.out.mono HB0.out.size)⟩
     · obtain ⟨rfl, rfl⟩ : ab = true /\ st = false := ⟨hab, hst⟩
       have hA : Below wr.heap.size wr (wr.alloc (.cells #[.string ⟨m.name.toArray⟩, .bool false, .bool true, .slice ap np cp, .int .i64 m.ret.kind, .string ⟨m.ret.name.toArray⟩, .int .i64 m.locals, .slice ac m.code.length cc, .slice ak m.catches.length ck] 39)) := (Below.refl _ _).alloc (Nat.le_refl _) _; have HBA := hide (HB.out.trans (hA.mono HB.out.size)); have hbx := heap_alloc_new wr (.cells #[.string ⟨m.name.toArray⟩, .bool false, .bool true, .slice ap np cp, .int .i64 m.ret.kind, .string ⟨m.ret.name.toArray⟩, .int .i64 m.locals, .slice ac m.code.length cc, .slice ak m.catches.length ck] 39); have HBx := hide hbx; have b0 := cell_box hbx 0; have b1 := cell_box hbx 1; have b2 := cell_box hbx 2; have b3 := cell_box hbx 3; have b4 := cell_box hbx 4; have b5 := cell_box hbx 5; have b6 := cell_box hbx 6; have b7 := cell_box hbx 7; have b8 := cell_box hbx 8; clear hA hbx
       have HF : Hid (r = 4) := hide (HForm.out (.inl (Ly.all_stop (p := Ly.mOkG c) HXm.out (by
        unfold Ly.mOkG; rw [<- HFi.out, <- HAb.out, <- HSt.out]
        rfl))))
       clear HA; go_wp2_with fail; go_ret; exact ⟨by rw [HF.out]; rfl, HB0.out.trans (HBA.out.mono HB0.out.size)⟩
     · obtain ⟨rfl, rfl⟩ : ab = false /\ st = true := ⟨hab, hst⟩
       have hA : Below wr.heap.size wr (wr.alloc (.cells #[.string ⟨m.name.toArray⟩, .bool true, .bool false, .slice ap np cp, .int .i64 m.ret.kind, .string ⟨m.ret.name.toArray⟩, .int .i64 m.locals, .slice ac m.code.length cc, .slice ak m.catches.length ck] 39)) := (Below.refl _ _).alloc (Nat.le_refl _) _; have HBA := hide (HB.out.trans (hA.mono HB.out.size)); have hbx := heap_alloc_new wr (.cells #[.string ⟨m.name.toArray⟩, .bool true, .bool false, .slice ap np cp, .int .i64 m.ret.kind, .string ⟨m.ret.name.toArray⟩, .int .i64 m.locals, .slice ac m.code.length cc, .slice ak m.catches.length ck] 39); have HBx := hide hbx; have b0 := cell_box hbx 0; have b1 := cell_box hbx 1; have b2 := cell_box hbx 2; have b3 := cell_box hbx 3; have b4 := cell_box hbx 4; have b5 := cell_box hbx 5; have b6 := cell_box hbx 6; have b7 := cell_box hbx 7; have b8 := cell_box hbx 8; clear hA hbx; go_wp2_with fail; generalize wr.alloc (.cells #[.string ⟨m.name.toArray⟩, .bool true, .bool false, .slice ap np cp, .int .i64 m.ret.kind, .string ⟨m.ret.name.toArray⟩, .int .i64 m.locals, .slice ac m.code.length cc, .slice ak m.catches.length ck] 39) = wB at *
       go_loop [7] (fun i => ∃ j : Nat, j <= np /\ i = .int .i64 j /\ Hid ((m.params.take j).all (fun t => t.kind != 1) = true)) (fun i => np - (intOf i).toNat)
       case atStart => exact ⟨0, Nat.zero_le _, rfl, hide (by simp)⟩
       case round =>
        obtain ⟨j, hj, rfl, HJ⟩ := hrel; by_cases hjl : j < np
        · obtain ⟨t, ht⟩ : ∃ x, m.params[j]? = some x := ⟨m.params[j]'(by rw [<- HNp.out]; exact hjl), List.getElem?_eq_getElem _⟩
          obtain ⟨g2, o2, rfl, ts, tf, hct⟩ := Ow.row_at' HRp.out ht; obtain ⟨rfl, _⟩ := tf; have s0 := hct wB (HB0.out.trans (HBA.out.mono HB0.out.size)) 0 _ rfl; rw [Nat.add_zero] at s0; have hjl' : (j : Int) < (np : Int) := by omega
          by_cases h1 : t.kind = 1
          · have HF : Hid (r = 4) := hide (HForm.out (.inl (Ly.all_stop (p := Ly.mOkG c) HXm.out (by
             unfold Ly.mOkG
             rw [Ly.all_stop (p := fun t : Pp.Ty => t.kind != 1) ht (by rw [h1]; rfl), Bool.and_false]))))
            rw [h1] at s0; clear ht hct h1 HJ; go_wp2_with fail; go_ret; exact ⟨by rw [HF.out]; rfl, HB0.out.trans (HBA.out.mono HB0.out.size)⟩
          · have h1' : (t.kind == 1) = false := by simpa using h1
            have HJ2 := hide (Ly.all_take (p := fun t : Pp.Ty => t.kind != 1) HJ.out ht (by rw [bne, h1']; rfl))
            clear ht hct h1 HJ; go_wp2_with fail
            go_round
            case rel => exact ⟨j + 1, by omega, by go_num, HJ2⟩
            case measure => simp [intOf]; omega
        · have HA2 : Hid ((c.methods.take (k + 1)).all (Ly.mOkG c) = true) := hide (Ly.all_take (p := Ly.mOkG c) HA.out HXm.out (by
           unfold Ly.mOkG; rw [<- HFi.out, <- HAb.out, <- HSt.out, Ly.all_end HJ.out (by rw [<- HNp.out]; omega)]
           rfl))
          have hjn : ¬ ((j : Int) < (np : Int)) := by omega
          clear HJ; go_wp2_with fail
          go_roundw
          case rel => exact ⟨k + 1, by omega, by go_num, HBA, HA2⟩
          case measure => simp [intOf]; omega
     · obtain ⟨rfl, rfl⟩ : ab = false /\ st = false := ⟨hab, hst⟩
       have hA : Below wr.heap.size wr (wr.alloc (.cells #[.string ⟨m.name.toArray⟩, .bool false, .bool false, .slice ap np cp, .int .i64 m.ret.kind, .string ⟨m.ret.name.toArray⟩, .int .i64 m.locals, .slice ac m.code.length cc, .slice ak m.catches.length ck] 39)) := (Below.refl _ _).alloc (Nat.le_refl _) _; have HBA := hide (HB.out.trans (hA.mono HB.out.size)); have hbx := heap_alloc_new wr (.cells #[.string ⟨m.name.toArray⟩, .bool false, .bool false, .slice ap np cp, .int .i64 m.ret.kind, .string ⟨m.ret.name.toArray⟩, .int .i64 m.locals, .slice ac m.code.length cc, .slice ak m.catches.length ck] 39); have HBx := hide hbx; have b0 := cell_box hbx 0; have b1 := cell_box hbx 1; have b2 := cell_box hbx 2; have b3 := cell_box hbx 3; have b4 := cell_box hbx 4; have b5 := cell_box hbx 5; have b6 := cell_box hbx 6; have b7 := cell_box hbx 7; have b8 := cell_box hbx 8; clear hA hbx; go_wp2_with fail; generalize wr.alloc (.cells #[.string ⟨m.name.toArray⟩, .bool false, .bool false, .slice ap np cp, .int .i64 m.ret.kind, .string ⟨m.ret.name.toArray⟩, .int .i64 m.locals, .slice ac m.code.length cc, .slice ak m.catches.length ck] 39) = wB at *
       go_loop [7] (fun i => ∃ j : Nat, j <= np /\ i = .int .i64 j /\ Hid ((m.params.take j).all (fun t => t.kind != 1) = true)) (fun i => np - (intOf i).toNat)
       case atStart => exact ⟨0, Nat.zero_le _, rfl, hide (by simp)⟩
       case round =>
        obtain ⟨j, hj, rfl, HJ⟩ := hrel; by_cases hjl : j < np
        · obtain ⟨t, ht⟩ : ∃ x, m.params[j]? = some x := ⟨m.params[j]'(by rw [<- HNp.out]; exact hjl), List.getElem?_eq_getElem _⟩
          obtain ⟨g2, o2, rfl, ts, tf, hct⟩ := Ow.row_at' HRp.out ht; obtain ⟨rfl, _⟩ := tf; have s0 := hct wB (HB0.out.trans (HBA.out.mono HB0.out.size)) 0 _ rfl; rw [Nat.add_zero] at s0; have hjl' : (j : Int) < (np : Int) := by omega
          by_cases h1 : t.kind = 1
          · have HF : Hid (r = 4) := hide (HForm.out (.inl (Ly.all_stop (p := Ly.mOkG c) HXm.out (by
             unfold Ly.mOkG
             rw [Ly.all_stop (p := fun t : Pp.Ty => t.kind != 1) ht (by rw [h1]; rfl), Bool.and_false]))))
            rw [h1] at s0; clear ht hct h1 HJ; go_wp2_with fail; go_ret; exact ⟨by rw [HF.out]; rfl, HB0.out.trans (HBA.out.mono HB0.out.size)⟩
          · have h1' : (t.kind == 1) = false := by simpa using h1
            have HJ2 := hide (Ly.all_take (p := fun t : Pp.Ty => t.kind != 1) HJ.out ht (by rw [bne, h1']; rfl))
            clear ht hct h1 HJ; go_wp2_with fail
            go_round
            case rel => exact ⟨j + 1, by omega, by go_num, HJ2⟩
            case measure => simp [intOf]; omega
        · have HA2 : Hid ((c.methods.take (k + 1)).all (Ly.mOkG c) = true) := hide (Ly.all_take (p := Ly.mOkG c) HA.out HXm.out (by
           unfold Ly.mOkG; rw [<- HFi.out, <- HAb.out, <- HSt.out, Ly.all_end HJ.out (by rw [<- HNp.out]; omega)]
           rfl))
          have hjn : ¬ ((j : Int) < (np : Int)) := by omega
          clear HJ; go_wp2_with fail
          go_roundw
          case rel => exact ⟨k + 1, by omega, by go_num, HBA, HA2⟩
          case measure => simp [intOf]; omega
    · have HForm2 : Hid (c.methods.all (Ly.mOkG c) = true) := hide (Ly.all_end HA.out (by rw [<- HNm.out]; omega))
      have hnl : ¬ ((k : Int) < (nm : Int)) := by omega
      clear HA hX1; go_wp2_with fail
      go_loopw [8] (fun i wr => ∃ k : Nat, k <= nf /\ i = .int .i64 k /\ Hid (Below wa.heap.size wa wr) /\ Hid ((c.fields.take k).all (Ly.fOkG c) = true)) (fun i _ => nf - (intOf i).toNat)
      case atStart => exact ⟨0, Nat.zero_le _, rfl, HB, hide (by simp)⟩
      case round =>
       clear HB HBw c5 c1; obtain ⟨k, hk, rfl, HB, HA⟩ := hrel; have HBw := hide (HB0.out.trans (HB.out.mono HB0.out.size)); have hX1 := (HB.out.block _ (Ow.lt_of_blk HX0.out)).trans HX0.out; have c1 := cell_box hX1 1; have c4 := cell_box hX1 4; by_cases hlt : k < nf
       · obtain ⟨x, hx⟩ : ∃ x, c.fields[k]? = some x := ⟨c.fields[k]'(by rw [<- HNf.out]; exact hlt), List.getElem?_eq_getElem _⟩
         obtain ⟨g, o, rfl, ys, wf, hc⟩ := Ow.row_at' HRf.out hx; obtain ⟨rfl, _⟩ := wf; have r1 := hc wr HBw.out 1 _ rfl; have hlt' : (k : Int) < (nf : Int) := by omega
         by_cases h1 : x.ty.kind = 1
         · rw [h1] at r1
           have HF : Hid (r = 4) := hide (HForm.out (.inr (Ly.all_stop (p := Ly.fOkG c) hx (by
            unfold Ly.fOkG; rw [<- HFi.out, h1]
            rfl))))
           clear hx hc HA h1; go_wp2_with fail; go_ret; exact ⟨by rw [HF.out]; rfl, HB0.out.trans (HB.out.mono HB0.out.size)⟩
         · have h1' : (x.ty.kind == 1) = false := by simpa using h1
           have HA2 := hide (Ly.all_take (p := Ly.fOkG c) HA.out hx (by unfold Ly.fOkG; rw [<- HFi.out, h1']; rfl))
           clear hx hc h1 HA; go_wp2_with fail
           go_roundw
           case rel => exact ⟨k + 1, by omega, by go_num, HB, HA2⟩
           case measure => simp [intOf]; omega
       · have HForm3 : Hid (c.fields.all (Ly.fOkG c) = true) := hide (Ly.all_end HA.out (by rw [<- HNf.out]; omega))
         have hnl : ¬ ((k : Int) < (nf : Int)) := by omega
         clear HA hX1; go_wp2_with fail
         go_loopw [9] (fun i wr => ∃ k : Nat, k <= nf /\ i = .int .i64 k /\ Hid (Below wa.heap.size wa wr) /\ Hid (((c.fields.take k).map (·.name)).Nodup)) (fun i _ => nf - (intOf i).toNat)
         case atStart => exact ⟨0, Nat.zero_le _, rfl, HB, hide (by simp)⟩
         case round =>
          clear HB HBw c1 c4; obtain ⟨k, hk, rfl, HB, HA⟩ := hrel; have HBw := hide (HB0.out.trans (HB.out.mono HB0.out.size)); have hX1 := (HB.out.block _ (Ow.lt_of_blk HX0.out)).trans HX0.out; have c4 := cell_box hX1 4; by_cases hlt : k < nf
          · obtain ⟨x, hx⟩ : ∃ x, c.fields[k]? = some x := ⟨c.fields[k]'(by rw [<- HNf.out]; exact hlt), List.getElem?_eq_getElem _⟩
            obtain ⟨g, o, rfl, ys, wf, hc⟩ := Ow.row_at' HRf.out hx; obtain ⟨rfl, _⟩ := wf; have HXk := hide hx; have HCk := hide hc; have hlt' : (k : Int) < (nf : Int) := by omega
            clear hx hc hX1; go_wp2_with fail
            go_loopw [10] (fun i wr => ∃ j : Nat, j <= k /\ i = .int .i64 j /\ Hid (Below wa.heap.size wa wr) /\ Hid ((c.fields.take j).any (fun y => x.name == y.name) = false)) (fun i _ => k - (intOf i).toNat)
            case atStart => exact ⟨0, Nat.zero_le _, rfl, HB, hide (by simp)⟩
            case round =>
             clear HB HBw c4; obtain ⟨j, hj, rfl, HB, HJ⟩ := hrel; have HBw := hide (HB0.out.trans (HB.out.mono HB0.out.size)); have hX1 := (HB.out.block _ (Ow.lt_of_blk HX0.out)).trans HX0.out; have c4 := cell_box hX1 4; clear hX1; by_cases hjk : j < k
             · obtain ⟨y, hy⟩ : ∃ y, c.fields[j]? = some y := ⟨c.fields[j]'(by rw [<- HNf.out]; omega), List.getElem?_eq_getElem _⟩
               obtain ⟨g3, o3, e3, zs, wz, hcz⟩ := Ow.row_at' HRf.out hy; injection e3 with e3; injection e3 with e31 e32 _; subst e31 e32; obtain ⟨rfl, _⟩ := wz; have r0 := HCk.out wr HBw.out 0 _ rfl; have s0 := hcz wr HBw.out 0 _ rfl; rw [Nat.add_zero] at r0 s0; have hjk' : (j : Int) < (k : Int) := by omega
               have hjn' : (j : Int) < (nf : Int) := by omega
               by_cases hn : x.name = y.name
               · have HF : Hid (r = 6) := hide (HTwi.out HForm2.out HForm3.out fun h => by
                  have h2 : (c.fields.take k).any (fun y => x.name == y.name) = true := List.any_eq_true.2 ⟨y, List.mem_of_getElem? (i := j) (by rw [List.getElem?_take, if_pos hjk]; exact hy), by rw [hn]; simp⟩
                  exact Ly.nodup_not (f := (·.name)) HXk.out h2 h.1)
                 rw [hn] at r0; clear hy hcz hn HJ; go_wp2_with fail
                 go_quiet (fail)
                 go_wp2_with fail; go_ret; exact ⟨by rw [HF.out]; rfl, HB0.out.trans ((by first | exact HB.out | exact below_drewN HB.out _ : Below wa.heap.size wa _).mono HB0.out.size)⟩
               · have hne : (x.name == y.name) = false := by simpa using hn
                 have HJ2 := hide (Ly.any_take (p := fun y : Pp.Fld => x.name == y.name) HJ.out hy hne); clear hy hcz hn HJ; go_wp2_with fail
                 go_quiet (fail)
                 go_wp2_with fail
                 go_roundw
                 case rel => exact ⟨j + 1, by omega, by go_num, hide (by first | exact HB.out | exact below_drewN HB.out _), HJ2⟩
                 case measure => simp [intOf]; omega
             · have hjk2 : j = k := by omega
               subst hjk2; have HA2 := hide (Ly.nodup_step (f := (·.name)) HA.out HXk.out HJ.out); have hjn : ¬ ((j : Int) < (j : Int)) := by omega
               clear HJ HA; go_wp2_with fail
               go_roundw
               case rel => exact ⟨j + 1, by omega, by go_num, HB, HA2⟩
               case measure => simp [intOf]; omega
          · have HNd1 : Hid ((c.fields.map (·.name)).Nodup) := hide (by
             have := HA.out
             rwa [List.take_of_length_le (by rw [<- HNf.out]; omega)] at this)
            have hnl : ¬ ((k : Int) < (nf : Int)) := by omega
            clear HA hX1; go_wp2_with fail
            go_loopw [11] (fun i wr => ∃ k : Nat, k <= nm /\ i = .int .i64 k /\ Hid (Below wa.heap.size wa wr) /\ Hid (((c.methods.take k).map (·.name)).Nodup)) (fun i _ => nm - (intOf i).toNat)
            case atStart => exact ⟨0, Nat.zero_le _, rfl, HB, hide (by simp)⟩
            case round =>
             clear HB HBw c4; obtain ⟨k, hk, rfl, HB, HA⟩ := hrel; have HBw := hide (HB0.out.trans (HB.out.mono HB0.out.size)); have hX1 := (HB.out.block _ (Ow.lt_of_blk HX0.out)).trans HX0.out; have c5 := cell_box hX1 5; by_cases hlt : k < nm
             · obtain ⟨m, hx⟩ : ∃ x, c.methods[k]? = some x := ⟨c.methods[k]'(by rw [<- HNm.out]; exact hlt), List.getElem?_eq_getElem _⟩
               obtain ⟨g, o, rfl, ys, wf, hc⟩ := Ow.row_at' HRm.out hx; obtain ⟨vp, vc, vk, rfl, _⟩ := wf; have HXk := hide hx; have HCk := hide (fun wx (hb : Below wa.heap.size wa wx) => hc wx (HB0.out.trans (hb.mono HB0.out.size)) 0 _ rfl); have HOwn := hide (fun wx (hb : Below wa.heap.size wa wx) => own_any c _ m.name wx (HCw.out.on (HB0.out.trans (hb.mono HB0.out.size))) (by rw [<- HNm.out]; exact hm))
               have HS : Hid (∀ wz, Below wa.heap.size wa wz -> wz.cell? ⟨w.heap.size, 0, none⟩ = some (.string NB) /\ wz.cell? ⟨w.heap.size, 1, none⟩ = some (.bool false) /\ wz.cell? ⟨w.heap.size, 2, none⟩ = some (.string SB) /\ wz.cell? ⟨w.heap.size, 3, none⟩ = some (.slice ia ni ic) /\ wz.cell? ⟨w.heap.size, 4, none⟩ = some (.slice fa nf fc) /\ wz.cell? ⟨w.heap.size, 5, none⟩ = some (.slice (some ⟨g, o, none⟩) nm mc) /\ wz.cell? ⟨g, o + k * 9, none⟩ = some (.string ⟨m.name.toArray⟩)) := hide fun wz hb => by
                have hz := (hb.block _ (Ow.lt_of_blk HX0.out)).trans HX0.out; have h0 := HCk.out wz hb; rw [Nat.add_zero] at h0; exact ⟨cell_box hz 0, cell_box hz 1, cell_box hz 2, cell_box hz 3, cell_box hz 4, cell_box hz 5, h0⟩
               have HBz : Hid (Below wa.heap.size wa wr.drew) := hide (HB.out.trans (Below.drew (Below.refl _ _))); have hlt' : (k : Int) < (nm : Int) := by omega
               have HBad : Hid ((c.methods.take k).any (fun y => m.name == y.name) = true -> r = 6) := hide fun h => HTwi.out HForm2.out HForm3.out fun h2 => Ly.nodup_not (f := (·.name)) HXk.out h h2.2; have HGood : Hid ((c.methods.take k).any (fun y => m.name == y.name) = false -> ((c.methods.take (k + 1)).map (·.name)).Nodup) := hide fun h => Ly.nodup_step (f := (·.name)) HA.out HXk.out h; have HIdx : Hid (((c.methods.take k).any (fun y => m.name == y.name) = false -> Ly.ownI (Ly.ownP c.methods m.name) = (k : Int)) /\ ((c.methods.take k).any (fun y => m.name == y.name) = true -> Ly.ownI (Ly.ownP c.methods m.name) ≠ (k : Int))) := hide (Ly.own_self HXk.out); clear hx hc hX1 HA; go_wp2_with fail
               go_region_held3 (fun wz => wz.cell? ⟨w.heap.size, 0, none⟩ = some (.string NB) /\ wz.cell? ⟨w.heap.size, 1, none⟩ = some (.bool false) /\ wz.cell? ⟨w.heap.size, 2, none⟩ = some (.string SB) /\ wz.cell? ⟨w.heap.size, 3, none⟩ = some (.slice ia ni ic) /\ wz.cell? ⟨w.heap.size, 4, none⟩ = some (.slice fa nf fc) /\ wz.cell? ⟨w.heap.size, 5, none⟩ = some (.slice (some ⟨g, o, none⟩) nm mc) /\ wz.cell? ⟨g, o + k * 9, none⟩ = some (.string ⟨m.name.toArray⟩)) (exact HS.out _ HBz.out)
                (first
                  | (go_at_call 63
                     refine (HOwn.out _ HBz.out).mono ?_; rintro e w5 ⟨rfl, hb5⟩; have HBz := hide (HBz.out.trans (hb5.mono HBz.out.size))
                     clear hb5)
                  | fail)
               all_goals
                generalize Ly.ownI (Ly.ownP c.methods m.name) = ow at *
                cases hany : (c.methods.take k).any (fun y => m.name == y.name) with
                | true =>
                  have HF := hide (HBad.out hany); have hne := HIdx.out.2 hany; have hne' : (ow != (k : Int)) = true := by simpa using hne
                  clear HBad HGood HIdx hany hne; go_wp2_with fail; go_ret; exact ⟨by rw [HF.out]; rfl, HB0.out.trans (HBz.out.mono HB0.out.size)⟩
                | false =>
                  have HA2 := hide (HGood.out hany); have heq := HIdx.out.1 hany; subst heq; clear HBad HGood HIdx hany; go_wp2_with fail
                  go_roundw
                  case rel => exact ⟨k + 1, by omega, by go_num, HBz, HA2⟩
                  case measure => simp [intOf]; omega
             · have HNd2 : Hid ((c.methods.map (·.name)).Nodup) := hide (by
                have := HA.out
                rwa [List.take_of_length_le (by rw [<- HNm.out]; omega)] at this)
               have hnl : ¬ ((k : Int) < (nm : Int)) := by omega
               clear HA hX1; go_wp2_with fail
               go_loopw [12] (fun i wr => ∃ k : Nat, k <= nf /\ i = .int .i64 k /\ Hid (Below wa.heap.size wa wr) /\ Hid ((c.fields.take k).all (fun f => Ly.namedG l f.ty) = true)) (fun i _ => nf - (intOf i).toNat)
               case atStart => exact ⟨0, Nat.zero_le _, rfl, HB, hide (by simp)⟩
               case round =>
                clear HB HBw c5; obtain ⟨k, hk, rfl, HB, HA⟩ := hrel; have HBw := hide (HB0.out.trans (HB.out.mono HB0.out.size)); have hX1 := (HB.out.block _ (Ow.lt_of_blk HX0.out)).trans HX0.out; have c4 := cell_box hX1 4; clear hX1; by_cases hlt : k < nf
                · obtain ⟨x, hx⟩ : ∃ x, c.fields[k]? = some x := ⟨c.fields[k]'(by rw [<- HNf.out]; exact hlt), List.getElem?_eq_getElem _⟩
                  obtain ⟨g, o, rfl, ys, wf, hc⟩ := Ow.row_at' HRf.out hx; obtain ⟨rfl, hl1, hl2⟩ := wf; have r1 := hc wr HBw.out 1 _ rfl; have r2 := hc wr HBw.out 2 _ rfl; have HCall := hide (HNa.out wr HBw.out x.ty [.int .i64 x.ty.kind, .string ⟨x.ty.name.toArray⟩] ⟨rfl, hl2⟩); have HSt := hide (fun hp => HNon.out HForm2.out HForm3.out HNd1.out HNd2.out (.inl (Ly.all_stop (p := fun f : Pp.Fld => Ly.namedG l f.ty) hx hp))); have HTk := hide (fun hp => Ly.all_take (p := fun f : Pp.Fld => Ly.namedG l f.ty) HA.out hx hp); have hlt' : (k : Int) < (nf : Int) := by omega
                  try simp only at HSt
                  try simp only at HTk
                  generalize Ly.namedG l x.ty = px at HCall HSt HTk; clear hx hc hl1 hl2 HA; go_wp2_with fail; refine HCall.out.mono ?_; rintro e w5 ⟨rfl, hb5⟩; have HB5 := hide (HB.out.trans (hb5.mono HB.out.size)); clear HCall hb5; cases px with
                  | false =>
                    have HF := hide (HSt.out rfl); clear HSt HTk; go_wp2_with fail; go_ret; exact ⟨by rw [HF.out]; rfl, HB0.out.trans (HB5.out.mono HB0.out.size)⟩
                  | true =>
                    have HA2 := hide (HTk.out rfl); clear HSt HTk; go_wp2_with fail
                    go_roundw
                    case rel => exact ⟨k + 1, by omega, by go_num, HB5, HA2⟩
                    case measure => simp [intOf]; omega
                · have HNm1 : Hid (c.fields.all (fun f => Ly.namedG l f.ty) = true) := hide (Ly.all_end HA.out (by rw [<- HNf.out]; omega))
                  have hnl : ¬ ((k : Int) < (nf : Int)) := by omega
                  clear HA; go_wp2_with fail
                  go_loopw [13] (fun i wr => ∃ k : Nat, k <= nm /\ i = .int .i64 k /\ Hid (Below wa.heap.size wa wr) /\ Hid ((c.methods.take k).all (Ly.mNamG l) = true)) (fun i _ => nm - (intOf i).toNat)
                  case atStart => exact ⟨0, Nat.zero_le _, rfl, HB, hide (by simp)⟩
                  case round =>
                   clear HB HBw c4; obtain ⟨k, hk, rfl, HB, HA⟩ := hrel; have HBw := hide (HB0.out.trans (HB.out.mono HB0.out.size)); have hX1 := (HB.out.block _ (Ow.lt_of_blk HX0.out)).trans HX0.out; have c5 := cell_box hX1 5; clear hX1; by_cases hlt : k < nm
                   ·
                    obtain ⟨m, hx⟩ : ∃ x, c.methods[k]? = some x := ⟨c.methods[k]'(by rw [<- HNm.out]; exact hlt), List.getElem?_eq_getElem _⟩
                    obtain ⟨g, o, rfl, ys, wf, hc⟩ := Ow.row_at' HRm.out hx; have hG := hide (hc wr HBw.out); have HXm := hide hx; have hmp := HPm.out m (List.mem_of_getElem? hx); clear hc hx; obtain ⟨vp, vc, vk, rfl, z1, z2, z3, _, hrl, _⟩ := wf; have HRp := hide z1; have HRl := hide hrl; obtain ⟨ap, cp, rfl, _⟩ := z1.len; obtain ⟨ac, cc, rfl, _⟩ := z2.len; obtain ⟨ak, ck, rfl, _⟩ := z3.len; clear z1 z2 z3 hrl; have r0 := hG.out 0 _ rfl; have r1 := hG.out 1 _ rfl; have r2 := hG.out 2 _ rfl; have r3 := hG.out 3 _ rfl; have r4 := hG.out 4 _ rfl; have r5 := hG.out 5 _ rfl; have r6 := hG.out 6 _ rfl; have r7 := hG.out 7 _ rfl; have r8 := hG.out 8 _ rfl; rw [Nat.add_zero] at r0; clear hG; obtain ⟨np, hnp⟩ : ∃ q, q = m.params.length := ⟨_, rfl⟩; have HNp := hide hnp; rw [<- hnp] at r3 HRp hmp; clear hnp; have hp1 : (np : Int) <= 100 := by omega
                    have hlt' : (k : Int) < (nm : Int) := by omega
                    have hA : Below wr.heap.size wr (wr.alloc (.cells #[.string ⟨m.name.toArray⟩, .bool m.stat, .bool m.abst, .slice ap np cp, .int .i64 m.ret.kind, .string ⟨m.ret.name.toArray⟩, .int .i64 m.locals, .slice ac m.code.length cc, .slice ak m.catches.length ck] 39)) := (Below.refl _ _).alloc (Nat.le_refl _) _; have HBA := hide (HB.out.trans (hA.mono HB.out.size)); have hbx := heap_alloc_new wr (.cells #[.string ⟨m.name.toArray⟩, .bool m.stat, .bool m.abst, .slice ap np cp, .int .i64 m.ret.kind, .string ⟨m.ret.name.toArray⟩, .int .i64 m.locals, .slice ac m.code.length cc, .slice ak m.catches.length ck] 39); have HBx := hide hbx; have b0 := cell_box hbx 0; have b1 := cell_box hbx 1; have b2 := cell_box hbx 2; have b3 := cell_box hbx 3; have b4 := cell_box hbx 4; have b5 := cell_box hbx 5; have b6 := cell_box hbx 6; have b7 := cell_box hbx 7; have b8 := cell_box hbx 8; clear hA hbx; have HCall := hide (HNa.out _ (HB0.out.trans (HBA.out.mono HB0.out.size)) m.ret [.int .i64 m.ret.kind, .string ⟨m.ret.name.toArray⟩] ⟨rfl, HRl.out⟩); have HSt : Hid ((Ly.namedG l m.ret && m.params.all (Ly.namedG l)) = false -> r = 5) := hide (fun hp => HNon.out HForm2.out HForm3.out HNd1.out HNd2.out (.inr (Ly.all_stop (p := Ly.mNamG l) HXm.out hp))); have HTk : Hid ((Ly.namedG l m.ret && m.params.all (Ly.namedG l)) = true -> (c.methods.take (k + 1)).all (Ly.mNamG l) = true) := hide (fun hp => Ly.all_take (p := Ly.mNamG l) HA.out HXm.out hp); generalize Ly.namedG l m.ret = px at HCall HSt HTk; clear HA; go_wp2_with fail; refine HCall.out.mono ?_; rintro e w5 ⟨rfl, hb5⟩; have HB5 := hide (HBA.out.trans (hb5.mono HBA.out.size)); have HX5 := hide ((hb5.block _ (Ow.lt_of_blk HBx.out)).trans HBx.out); clear HCall hb5; cases px with
                    | false =>
                      have HF := hide (HSt.out rfl); clear HSt HTk; go_wp2_with fail; go_ret; exact ⟨by rw [HF.out]; rfl, HB0.out.trans (HB5.out.mono HB0.out.size)⟩
                    | true =>
                      have HSt2 : Hid (m.params.all (Ly.namedG l) = false -> r = 5) := hide fun h => HSt.out (by rw [h]; rfl)
                      have HTk2 : Hid (m.params.all (Ly.namedG l) = true -> (c.methods.take (k + 1)).all (Ly.mNamG l) = true) := hide fun h => HTk.out (by rw [h]; rfl)
                      clear HSt HTk; go_wp2_with fail
                      go_loopw [15] (fun i wr => ∃ j : Nat, j <= np /\ i = .int .i64 j /\ Hid (Below w5.heap.size w5 wr) /\ Hid ((m.params.take j).all (Ly.namedG l) = true)) (fun i _ => np - (intOf i).toNat)
                      case atStart => exact ⟨0, Nat.zero_le _, rfl, hide (Below.refl _ _), hide (by simp)⟩
                      case round =>
                       obtain ⟨j, hj, rfl, HBj, HJ⟩ := hrel; have HBa := hide (HB5.out.trans (HBj.out.mono HB5.out.size)); have hX6 := (HBj.out.block _ (Ow.lt_of_blk HX5.out)).trans HX5.out; have d3 := cell_box hX6 3; clear hX6; by_cases hjl : j < np
                       · obtain ⟨t, ht⟩ : ∃ x, m.params[j]? = some x := ⟨m.params[j]'(by rw [<- HNp.out]; exact hjl), List.getElem?_eq_getElem _⟩
                         obtain ⟨g2, o2, rfl, ts, tf, hct⟩ := Ow.row_at' HRp.out ht; have htf := tf; obtain ⟨rfl, hl2⟩ := tf; have s0 := hct wr (HB0.out.trans (HBa.out.mono HB0.out.size)) 0 _ rfl; have s1 := hct wr (HB0.out.trans (HBa.out.mono HB0.out.size)) 1 _ rfl; rw [Nat.add_zero] at s0; have HCall := hide (HNa.out wr (HB0.out.trans (HBa.out.mono HB0.out.size)) t [.int .i64 t.kind, .string ⟨t.name.toArray⟩] ⟨rfl, hl2⟩); have HSj := hide (fun hp => HSt2.out (Ly.all_stop (p := Ly.namedG l) ht hp)); have HTj := hide (fun hp => Ly.all_take (p := Ly.namedG l) HJ.out ht hp); have hjl' : (j : Int) < (np : Int) := by omega
                         generalize Ly.namedG l t = pt at HCall HSj HTj; clear ht hct htf hl2 HJ; go_wp2_with fail; refine HCall.out.mono ?_; rintro e w7 ⟨rfl, hb7⟩; have HB7 := hide (HBj.out.trans (hb7.mono HBj.out.size)); have HB7a := hide (HBa.out.trans (hb7.mono HBa.out.size)); clear HCall hb7; cases pt with
                         | false =>
                           have HF := hide (HSj.out rfl); clear HSj HTj; go_wp2_with fail; go_ret; exact ⟨by rw [HF.out]; rfl, HB0.out.trans (HB7a.out.mono HB0.out.size)⟩
                         | true =>
                           have HJ2 := hide (HTj.out rfl); clear HSj HTj; go_wp2_with fail
                           go_roundw
                           case rel => exact ⟨j + 1, by omega, by go_num, HB7, HJ2⟩
                           case measure => simp [intOf]; omega
                       · have HA2 := hide (HTk2.out (Ly.all_end HJ.out (by rw [<- HNp.out]; omega)))
                         have hjn : ¬ ((j : Int) < (np : Int)) := by omega
                         clear HJ; go_wp2_with fail
                         go_roundw
                         case rel => exact ⟨k + 1, by omega, by go_num, HBa, HA2⟩
                         case measure => simp [intOf]; omega
                   · have HF := hide (HOkk.out HForm2.out HForm3.out HNd1.out HNd2.out HNm1.out (Ly.all_end HA.out (by rw [<- HNm.out]; omega)))
                     have hnl : ¬ ((k : Int) < (nm : Int)) := by omega
                     clear HA; go_wp2_with fail; go_ret; exact ⟨by rw [HF.out]; rfl, HBw.out⟩
 | true =>
   go_enter Tryz.func36, Tryz.ntmps36; go_wp2_with fail; generalize w.alloc (.cells #[.string NB, .bool true, .string SB, .slice ia ni ic, .slice fa nf fc, .slice ma nm mc] 59) = wa at *
   go_loopw [5] (fun i wr => ∃ k : Nat, k <= nm /\ i = .int .i64 k /\ Hid (Below wa.heap.size wa wr) /\ Hid ((c.methods.take k).all (Ly.mOkG c) = true)) (fun i _ => nm - (intOf i).toNat)
   case atStart => exact ⟨0, Nat.zero_le _, rfl, hide (Below.refl _ _), hide (by simp)⟩
   case round =>
    obtain ⟨k, hk, rfl, HB, HA⟩ := hrel; have HBw := hide (HB0.out.trans (HB.out.mono HB0.out.size)); have hX1 := (HB.out.block _ (Ow.lt_of_blk HX0.out)).trans HX0.out; have c5 := cell_box hX1 5; have c1 := cell_box hX1 1; by_cases hlt : k < nm
    ·
     obtain ⟨m, hx⟩ : ∃ x, c.methods[k]? = some x := ⟨c.methods[k]'(by rw [<- HNm.out]; exact hlt), List.getElem?_eq_getElem _⟩
     obtain ⟨g, o, rfl, ys, wf, hc⟩ := Ow.row_at' HRm.out hx; have hG := hide (hc wr HBw.out); have HXm := hide hx; have hmp := HPm.out m (List.mem_of_getElem? hx); clear hc hx; obtain ⟨vp, vc, vk, rfl, z1, z2, z3, _, hrl, _⟩ := wf; have HRp := hide z1; have HRl := hide hrl; obtain ⟨ap, cp, rfl, _⟩ := z1.len; obtain ⟨ac, cc, rfl, _⟩ := z2.len; obtain ⟨ak, ck, rfl, _⟩ := z3.len; clear z1 z2 z3 hrl; have r0 := hG.out 0 _ rfl; have r1 := hG.out 1 _ rfl; have r2 := hG.out 2 _ rfl; have r3 := hG.out 3 _ rfl; have r4 := hG.out 4 _ rfl; have r5 := hG.out 5 _ rfl; have r6 := hG.out 6 _ rfl; have r7 := hG.out 7 _ rfl; have r8 := hG.out 8 _ rfl; rw [Nat.add_zero] at r0; clear hG; obtain ⟨np, hnp⟩ : ∃ q, q = m.params.length := ⟨_, rfl⟩; have HNp := hide hnp; rw [<- hnp] at r3 HRp hmp; clear hnp; have hp1 : (np : Int) <= 100 := by omega
     have hlt' : (k : Int) < (nm : Int) := by omega
     obtain ⟨st, hst0⟩ : ∃ q, q = m.stat := ⟨_, rfl⟩; obtain ⟨ab, hab0⟩ : ∃ q, q = m.abst := ⟨_, rfl⟩; have HSt := hide hst0; have HAb := hide hab0; rw [<- hst0] at r1; rw [<- hab0] at r2; have c5a := c5; clear hst0 hab0; have hXA : ∀ (B : Obj), (wr.alloc B).heap[w.heap.size]? = some (.cells #[.string NB, .bool true, .string SB, .slice ia ni ic, .slice fa nf fc, .slice (some ⟨g, o, none⟩) nm mc] 59 (0, 0)) := fun B => (((Below.refl wr.heap.size wr).alloc (Nat.le_refl _) B).block _ (Ow.lt_of_blk hX1)).trans hX1; have e1 := fun B => cell_box (hXA B) 1; have hcases : (ab = true /\ st = true) \/ (ab = true /\ st = false) \/ (ab = false /\ st = true) \/ (ab = false /\ st = false) := by cases ab <;> cases st <;> simp
     clear hXA hX1
     rcases hcases with ⟨hab, hst⟩ | ⟨hab, hst⟩ | ⟨hab, hst⟩ | ⟨hab, hst⟩
     · obtain ⟨rfl, rfl⟩ : ab = true /\ st = true := ⟨hab, hst⟩
       have hA : Below wr.heap.size wr (wr.alloc (.cells #[.string ⟨m.name.toArray⟩, .bool true, .bool true, .slice ap np cp, .int .i64 m.ret.kind, .string ⟨m.ret.name.toArray⟩, .int .i64 m.locals, .slice ac m.code.length cc, .slice ak m.catches.length ck] 39)) := (Below.refl _ _).alloc (Nat.le_refl _) _; have HBA := hide (HB.out.trans (hA.mono HB.out.size)); have hbx := heap_alloc_new wr (.cells #[.string ⟨m.name.toArray⟩, .bool true, .bool true, .slice ap np cp, .int .i64 m.ret.kind, .string ⟨m.ret.name.toArray⟩, .int .i64 m.locals, .slice ac m.code.length cc, .slice ak m.catches.length ck] 39); have HBx := hide hbx; have b0 := cell_box hbx 0; have b1 := cell_box hbx 1; have b2 := cell_box hbx 2; have b3 := cell_box hbx 3; have b4 := cell_box hbx 4; have b5 := cell_box hbx 5; have b6 := cell_box hbx 6; have b7 := cell_box hbx 7; have b8 := cell_box hbx 8; clear hA hbx
       have HF : Hid (r = 4) := hide (HForm.out (.inl (Ly.all_stop (p := Ly.mOkG c) HXm.out (by
        unfold Ly.mOkG; rw [<- HFi.out, <- HAb.out, <- HSt.out]
        rfl))))
       clear HA; go_wp2_with fail; go_ret; exact ⟨by rw [HF.out]; rfl, HB0.out.trans (HBA.out.mono HB0.out.size)⟩
     · obtain ⟨rfl, rfl⟩ : ab = true /\ st = false := ⟨hab, hst⟩
       have hA : Below wr.heap.size wr (wr.alloc (.cells #[.string ⟨m.name.toArray⟩, .bool false, .bool true, .slice ap np cp, .int .i64 m.ret.kind, .string ⟨m.ret.name.toArray⟩, .int .i64 m.locals, .slice ac m.code.length cc, .slice ak m.catches.length ck] 39)) := (Below.refl _ _).alloc (Nat.le_refl _) _; have HBA := hide (HB.out.trans (hA.mono HB.out.size)); have hbx := heap_alloc_new wr (.cells #[.string ⟨m.name.toArray⟩, .bool false, .bool true, .slice ap np cp, .int .i64 m.ret.kind, .string ⟨m.ret.name.toArray⟩, .int .i64 m.locals, .slice ac m.code.length cc, .slice ak m.catches.length ck] 39); have HBx := hide hbx; have b0 := cell_box hbx 0; have b1 := cell_box hbx 1; have b2 := cell_box hbx 2; have b3 := cell_box hbx 3; have b4 := cell_box hbx 4; have b5 := cell_box hbx 5; have b6 := cell_box hbx 6; have b7 := cell_box hbx 7; have b8 := cell_box hbx 8; clear hA hbx; go_wp2_with fail; generalize wr.alloc (.cells #[.string ⟨m.name.toArray⟩, .bool false, .bool true, .slice ap np cp, .int .i64 m.ret.kind, .string ⟨m.ret.name.toArray⟩, .int .i64 m.locals, .slice ac m.code.length cc, .slice ak m.catches.length ck] 39) = wB at *
       go_loop [7] (fun i => ∃ j : Nat, j <= np /\ i = .int .i64 j /\ Hid ((m.params.take j).all (fun t => t.kind != 1) = true)) (fun i => np - (intOf i).toNat)
       case atStart => exact ⟨0, Nat.zero_le _, rfl, hide (by simp)⟩
       case round =>
        obtain ⟨j, hj, rfl, HJ⟩ := hrel; by_cases hjl : j < np
        · obtain ⟨t, ht⟩ : ∃ x, m.params[j]? = some x := ⟨m.params[j]'(by rw [<- HNp.out]; exact hjl), List.getElem?_eq_getElem _⟩
          obtain ⟨g2, o2, rfl, ts, tf, hct⟩ := Ow.row_at' HRp.out ht; obtain ⟨rfl, _⟩ := tf; have s0 := hct wB (HB0.out.trans (HBA.out.mono HB0.out.size)) 0 _ rfl; rw [Nat.add_zero] at s0; have hjl' : (j : Int) < (np : Int) := by omega
          by_cases h1 : t.kind = 1
          · have HF : Hid (r = 4) := hide (HForm.out (.inl (Ly.all_stop (p := Ly.mOkG c) HXm.out (by
             unfold Ly.mOkG
             rw [Ly.all_stop (p := fun t : Pp.Ty => t.kind != 1) ht (by rw [h1]; rfl), Bool.and_false]))))
            rw [h1] at s0; clear ht hct h1 HJ; go_wp2_with fail; go_ret; exact ⟨by rw [HF.out]; rfl, HB0.out.trans (HBA.out.mono HB0.out.size)⟩
          · have h1' : (t.kind == 1) = false := by simpa using h1
            have HJ2 := hide (Ly.all_take (p := fun t : Pp.Ty => t.kind != 1) HJ.out ht (by rw [bne, h1']; rfl))
            clear ht hct h1 HJ; go_wp2_with fail
            go_round
            case rel => exact ⟨j + 1, by omega, by go_num, HJ2⟩
            case measure => simp [intOf]; omega
        · have HA2 : Hid ((c.methods.take (k + 1)).all (Ly.mOkG c) = true) := hide (Ly.all_take (p := Ly.mOkG c) HA.out HXm.out (by
           unfold Ly.mOkG; rw [<- HFi.out, <- HAb.out, <- HSt.out, Ly.all_end HJ.out (by rw [<- HNp.out]; omega)]
           rfl))
          have hjn : ¬ ((j : Int) < (np : Int)) := by omega
          clear HJ; go_wp2_with fail
          go_roundw
          case rel => exact ⟨k + 1, by omega, by go_num, HBA, HA2⟩
          case measure => simp [intOf]; omega
     · obtain ⟨rfl, rfl⟩ : ab = false /\ st = true := ⟨hab, hst⟩
       have hA : Below wr.heap.size wr (wr.alloc (.cells #[.string ⟨m.name.toArray⟩, .bool true, .bool false, .slice ap np cp, .int .i64 m.ret.kind, .string ⟨m.ret.name.toArray⟩, .int .i64 m.locals, .slice ac m.code.length cc, .slice ak m.catches.length ck] 39)) := (Below.refl _ _).alloc (Nat.le_refl _) _; have HBA := hide (HB.out.trans (hA.mono HB.out.size)); have hbx := heap_alloc_new wr (.cells #[.string ⟨m.name.toArray⟩, .bool true, .bool false, .slice ap np cp, .int .i64 m.ret.kind, .string ⟨m.ret.name.toArray⟩, .int .i64 m.locals, .slice ac m.code.length cc, .slice ak m.catches.length ck] 39); have HBx := hide hbx; have b0 := cell_box hbx 0; have b1 := cell_box hbx 1; have b2 := cell_box hbx 2; have b3 := cell_box hbx 3; have b4 := cell_box hbx 4; have b5 := cell_box hbx 5; have b6 := cell_box hbx 6; have b7 := cell_box hbx 7; have b8 := cell_box hbx 8; clear hA hbx
       have HF : Hid (r = 4) := hide (HForm.out (.inl (Ly.all_stop (p := Ly.mOkG c) HXm.out (by
        unfold Ly.mOkG; rw [<- HFi.out, <- HAb.out, <- HSt.out]
        rfl))))
       clear HA; go_wp2_with fail; go_ret; exact ⟨by rw [HF.out]; rfl, HB0.out.trans (HBA.out.mono HB0.out.size)⟩
     · obtain ⟨rfl, rfl⟩ : ab = false /\ st = false := ⟨hab, hst⟩
       have hA : Below wr.heap.size wr (wr.alloc (.cells #[.string ⟨m.name.toArray⟩, .bool false, .bool false, .slice ap np cp, .int .i64 m.ret.kind, .string ⟨m.ret.name.toArray⟩, .int .i64 m.locals, .slice ac m.code.length cc, .slice ak m.catches.length ck] 39)) := (Below.refl _ _).alloc (Nat.le_refl _) _; have HBA := hide (HB.out.trans (hA.mono HB.out.size)); have hbx := heap_alloc_new wr (.cells #[.string ⟨m.name.toArray⟩, .bool false, .bool false, .slice ap np cp, .int .i64 m.ret.kind, .string ⟨m.ret.name.toArray⟩, .int .i64 m.locals, .slice ac m.code.length cc, .slice ak m.catches.length ck] 39); have HBx := hide hbx; have b0 := cell_box hbx 0; have b1 := cell_box hbx 1; have b2 := cell_box hbx 2; have b3 := cell_box hbx 3; have b4 := cell_box hbx 4; have b5 := cell_box hbx 5; have b6 := cell_box hbx 6; have b7 := cell_box hbx 7; have b8 := cell_box hbx 8; clear hA hbx
       have HF : Hid (r = 4) := hide (HForm.out (.inl (Ly.all_stop (p := Ly.mOkG c) HXm.out (by
        unfold Ly.mOkG; rw [<- HFi.out, <- HAb.out, <- HSt.out]
        rfl))))
       clear HA; go_wp2_with fail; go_ret; exact ⟨by rw [HF.out]; rfl, HB0.out.trans (HBA.out.mono HB0.out.size)⟩
    · have HForm2 : Hid (c.methods.all (Ly.mOkG c) = true) := hide (Ly.all_end HA.out (by rw [<- HNm.out]; omega))
      have hnl : ¬ ((k : Int) < (nm : Int)) := by omega
      clear HA hX1; go_wp2_with fail
      go_loopw [8] (fun i wr => ∃ k : Nat, k <= nf /\ i = .int .i64 k /\ Hid (Below wa.heap.size wa wr) /\ Hid ((c.fields.take k).all (Ly.fOkG c) = true)) (fun i _ => nf - (intOf i).toNat)
      case atStart => exact ⟨0, Nat.zero_le _, rfl, HB, hide (by simp)⟩
      case round =>
       clear HB HBw c5 c1; obtain ⟨k, hk, rfl, HB, HA⟩ := hrel; have HBw := hide (HB0.out.trans (HB.out.mono HB0.out.size)); have hX1 := (HB.out.block _ (Ow.lt_of_blk HX0.out)).trans HX0.out; have c1 := cell_box hX1 1; have c4 := cell_box hX1 4; by_cases hlt : k < nf
       · obtain ⟨x, hx⟩ : ∃ x, c.fields[k]? = some x := ⟨c.fields[k]'(by rw [<- HNf.out]; exact hlt), List.getElem?_eq_getElem _⟩
         obtain ⟨g, o, rfl, ys, wf, hc⟩ := Ow.row_at' HRf.out hx; obtain ⟨rfl, _⟩ := wf; have r1 := hc wr HBw.out 1 _ rfl; have hlt' : (k : Int) < (nf : Int) := by omega
         have HF : Hid (r = 4) := hide (HForm.out (.inr (Ly.all_stop (p := Ly.fOkG c) hx (by
          unfold Ly.fOkG; rw [<- HFi.out]
          rfl))))
         clear hx hc HA; go_wp2_with fail; go_ret; exact ⟨by rw [HF.out]; rfl, HB0.out.trans (HB.out.mono HB0.out.size)⟩
       · have HForm3 : Hid (c.fields.all (Ly.fOkG c) = true) := hide (Ly.all_end HA.out (by rw [<- HNf.out]; omega))
         have hnl : ¬ ((k : Int) < (nf : Int)) := by omega
         clear HA hX1; go_wp2_with fail
         go_loopw [9] (fun i wr => ∃ k : Nat, k <= nf /\ i = .int .i64 k /\ Hid (Below wa.heap.size wa wr) /\ Hid (((c.fields.take k).map (·.name)).Nodup)) (fun i _ => nf - (intOf i).toNat)
         case atStart => exact ⟨0, Nat.zero_le _, rfl, HB, hide (by simp)⟩
         case round =>
          clear HB HBw c1 c4; obtain ⟨k, hk, rfl, HB, HA⟩ := hrel; have HBw := hide (HB0.out.trans (HB.out.mono HB0.out.size)); have hX1 := (HB.out.block _ (Ow.lt_of_blk HX0.out)).trans HX0.out; have c4 := cell_box hX1 4; by_cases hlt : k < nf
          · obtain ⟨x, hx⟩ : ∃ x, c.fields[k]? = some x := ⟨c.fields[k]'(by rw [<- HNf.out]; exact hlt), List.getElem?_eq_getElem _⟩
            obtain ⟨g, o, rfl, ys, wf, hc⟩ := Ow.row_at' HRf.out hx; obtain ⟨rfl, _⟩ := wf; have HXk := hide hx; have HCk := hide hc; have hlt' : (k : Int) < (nf : Int) := by omega
            clear hx hc hX1; go_wp2_with fail
            go_loopw [10] (fun i wr => ∃ j : Nat, j <= k /\ i = .int .i64 j /\ Hid (Below wa.heap.size wa wr) /\ Hid ((c.fields.take j).any (fun y => x.name == y.name) = false)) (fun i _ => k - (intOf i).toNat)
            case atStart => exact ⟨0, Nat.zero_le _, rfl, HB, hide (by simp)⟩
            case round =>
             clear HB HBw c4; obtain ⟨j, hj, rfl, HB, HJ⟩ := hrel; have HBw := hide (HB0.out.trans (HB.out.mono HB0.out.size)); have hX1 := (HB.out.block _ (Ow.lt_of_blk HX0.out)).trans HX0.out; have c4 := cell_box hX1 4; clear hX1; by_cases hjk : j < k
             · obtain ⟨y, hy⟩ : ∃ y, c.fields[j]? = some y := ⟨c.fields[j]'(by rw [<- HNf.out]; omega), List.getElem?_eq_getElem _⟩
               obtain ⟨g3, o3, e3, zs, wz, hcz⟩ := Ow.row_at' HRf.out hy; injection e3 with e3; injection e3 with e31 e32 _; subst e31 e32; obtain ⟨rfl, _⟩ := wz; have r0 := HCk.out wr HBw.out 0 _ rfl; have s0 := hcz wr HBw.out 0 _ rfl; rw [Nat.add_zero] at r0 s0; have hjk' : (j : Int) < (k : Int) := by omega
               have hjn' : (j : Int) < (nf : Int) := by omega
               by_cases hn : x.name = y.name
               · have HF : Hid (r = 6) := hide (HTwi.out HForm2.out HForm3.out fun h => by
                  have h2 : (c.fields.take k).any (fun y => x.name == y.name) = true := List.any_eq_true.2 ⟨y, List.mem_of_getElem? (i := j) (by rw [List.getElem?_take, if_pos hjk]; exact hy), by rw [hn]; simp⟩
                  exact Ly.nodup_not (f := (·.name)) HXk.out h2 h.1)
                 rw [hn] at r0; clear hy hcz hn HJ; go_wp2_with fail
                 go_quiet (fail)
                 go_wp2_with fail; go_ret; exact ⟨by rw [HF.out]; rfl, HB0.out.trans ((by first | exact HB.out | exact below_drewN HB.out _ : Below wa.heap.size wa _).mono HB0.out.size)⟩
               · have hne : (x.name == y.name) = false := by simpa using hn
                 have HJ2 := hide (Ly.any_take (p := fun y : Pp.Fld => x.name == y.name) HJ.out hy hne); clear hy hcz hn HJ; go_wp2_with fail
                 go_quiet (fail)
                 go_wp2_with fail
                 go_roundw
                 case rel => exact ⟨j + 1, by omega, by go_num, hide (by first | exact HB.out | exact below_drewN HB.out _), HJ2⟩
                 case measure => simp [intOf]; omega
             · have hjk2 : j = k := by omega
               subst hjk2; have HA2 := hide (Ly.nodup_step (f := (·.name)) HA.out HXk.out HJ.out); have hjn : ¬ ((j : Int) < (j : Int)) := by omega
               clear HJ HA; go_wp2_with fail
               go_roundw
               case rel => exact ⟨j + 1, by omega, by go_num, HB, HA2⟩
               case measure => simp [intOf]; omega
          · have HNd1 : Hid ((c.fields.map (·.name)).Nodup) := hide (by
             have := HA.out
             rwa [List.take_of_length_le (by rw [<- HNf.out]; omega)] at this)
            have hnl : ¬ ((k : Int) < (nf : Int)) := by omega
            clear HA hX1; go_wp2_with fail
            go_loopw [11] (fun i wr => ∃ k : Nat, k <= nm /\ i = .int .i64 k /\ Hid (Below wa.heap.size wa wr) /\ Hid (((c.methods.take k).map (·.name)).Nodup)) (fun i _ => nm - (intOf i).toNat)
            case atStart => exact ⟨0, Nat.zero_le _, rfl, HB, hide (by simp)⟩
            case round =>
             clear HB HBw c4; obtain ⟨k, hk, rfl, HB, HA⟩ := hrel; have HBw := hide (HB0.out.trans (HB.out.mono HB0.out.size)); have hX1 := (HB.out.block _ (Ow.lt_of_blk HX0.out)).trans HX0.out; have c5 := cell_box hX1 5; by_cases hlt : k < nm
             · obtain ⟨m, hx⟩ : ∃ x, c.methods[k]? = some x := ⟨c.methods[k]'(by rw [<- HNm.out]; exact hlt), List.getElem?_eq_getElem _⟩
               obtain ⟨g, o, rfl, ys, wf, hc⟩ := Ow.row_at' HRm.out hx; obtain ⟨vp, vc, vk, rfl, _⟩ := wf; have HXk := hide hx; have HCk := hide (fun wx (hb : Below wa.heap.size wa wx) => hc wx (HB0.out.trans (hb.mono HB0.out.size)) 0 _ rfl); have HOwn := hide (fun wx (hb : Below wa.heap.size wa wx) => own_any c _ m.name wx (HCw.out.on (HB0.out.trans (hb.mono HB0.out.size))) (by rw [<- HNm.out]; exact hm))
               have HS : Hid (∀ wz, Below wa.heap.size wa wz -> wz.cell? ⟨w.heap.size, 0, none⟩ = some (.string NB) /\ wz.cell? ⟨w.heap.size, 1, none⟩ = some (.bool true) /\ wz.cell? ⟨w.heap.size, 2, none⟩ = some (.string SB) /\ wz.cell? ⟨w.heap.size, 3, none⟩ = some (.slice ia ni ic) /\ wz.cell? ⟨w.heap.size, 4, none⟩ = some (.slice fa nf fc) /\ wz.cell? ⟨w.heap.size, 5, none⟩ = some (.slice (some ⟨g, o, none⟩) nm mc) /\ wz.cell? ⟨g, o + k * 9, none⟩ = some (.string ⟨m.name.toArray⟩)) := hide fun wz hb => by
                have hz := (hb.block _ (Ow.lt_of_blk HX0.out)).trans HX0.out; have h0 := HCk.out wz hb; rw [Nat.add_zero] at h0; exact ⟨cell_box hz 0, cell_box hz 1, cell_box hz 2, cell_box hz 3, cell_box hz 4, cell_box hz 5, h0⟩
               have HBz : Hid (Below wa.heap.size wa wr.drew) := hide (HB.out.trans (Below.drew (Below.refl _ _))); have hlt' : (k : Int) < (nm : Int) := by omega
               have HBad : Hid ((c.methods.take k).any (fun y => m.name == y.name) = true -> r = 6) := hide fun h => HTwi.out HForm2.out HForm3.out fun h2 => Ly.nodup_not (f := (·.name)) HXk.out h h2.2; have HGood : Hid ((c.methods.take k).any (fun y => m.name == y.name) = false -> ((c.methods.take (k + 1)).map (·.name)).Nodup) := hide fun h => Ly.nodup_step (f := (·.name)) HA.out HXk.out h; have HIdx : Hid (((c.methods.take k).any (fun y => m.name == y.name) = false -> Ly.ownI (Ly.ownP c.methods m.name) = (k : Int)) /\ ((c.methods.take k).any (fun y => m.name == y.name) = true -> Ly.ownI (Ly.ownP c.methods m.name) ≠ (k : Int))) := hide (Ly.own_self HXk.out); clear hx hc hX1 HA; go_wp2_with fail
               go_region_held3 (fun wz => wz.cell? ⟨w.heap.size, 0, none⟩ = some (.string NB) /\ wz.cell? ⟨w.heap.size, 1, none⟩ = some (.bool true) /\ wz.cell? ⟨w.heap.size, 2, none⟩ = some (.string SB) /\ wz.cell? ⟨w.heap.size, 3, none⟩ = some (.slice ia ni ic) /\ wz.cell? ⟨w.heap.size, 4, none⟩ = some (.slice fa nf fc) /\ wz.cell? ⟨w.heap.size, 5, none⟩ = some (.slice (some ⟨g, o, none⟩) nm mc) /\ wz.cell? ⟨g, o + k * 9, none⟩ = some (.string ⟨m.name.toArray⟩)) (exact HS.out _ HBz.out)
                (first
                  | (go_at_call 63
                     refine (HOwn.out _ HBz.out).mono ?_; rintro e w5 ⟨rfl, hb5⟩; have HBz := hide (HBz.out.trans (hb5.mono HBz.out.size))
                     clear hb5)
                  | fail)
               all_goals
                generalize Ly.ownI (Ly.ownP c.methods m.name) = ow at *
                cases hany : (c.methods.take k).any (fun y => m.name == y.name) with
                | true =>
                  have HF := hide (HBad.out hany); have hne := HIdx.out.2 hany; have hne' : (ow != (k : Int)) = true := by simpa using hne
                  clear HBad HGood HIdx hany hne; go_wp2_with fail; go_ret; exact ⟨by rw [HF.out]; rfl, HB0.out.trans (HBz.out.mono HB0.out.size)⟩
                | false =>
                  have HA2 := hide (HGood.out hany); have heq := HIdx.out.1 hany; subst heq; clear HBad HGood HIdx hany; go_wp2_with fail
                  go_roundw
                  case rel => exact ⟨k + 1, by omega, by go_num, HBz, HA2⟩
                  case measure => simp [intOf]; omega
             · have HNd2 : Hid ((c.methods.map (·.name)).Nodup) := hide (by
                have := HA.out
                rwa [List.take_of_length_le (by rw [<- HNm.out]; omega)] at this)
               have hnl : ¬ ((k : Int) < (nm : Int)) := by omega
               clear HA hX1; go_wp2_with fail
               go_loopw [12] (fun i wr => ∃ k : Nat, k <= nf /\ i = .int .i64 k /\ Hid (Below wa.heap.size wa wr) /\ Hid ((c.fields.take k).all (fun f => Ly.namedG l f.ty) = true)) (fun i _ => nf - (intOf i).toNat)
               case atStart => exact ⟨0, Nat.zero_le _, rfl, HB, hide (by simp)⟩
               case round =>
                clear HB HBw c5; obtain ⟨k, hk, rfl, HB, HA⟩ := hrel; have HBw := hide (HB0.out.trans (HB.out.mono HB0.out.size)); have hX1 := (HB.out.block _ (Ow.lt_of_blk HX0.out)).trans HX0.out; have c4 := cell_box hX1 4; clear hX1; by_cases hlt : k < nf
                · obtain ⟨x, hx⟩ : ∃ x, c.fields[k]? = some x := ⟨c.fields[k]'(by rw [<- HNf.out]; exact hlt), List.getElem?_eq_getElem _⟩
                  obtain ⟨g, o, rfl, ys, wf, hc⟩ := Ow.row_at' HRf.out hx; obtain ⟨rfl, hl1, hl2⟩ := wf; have r1 := hc wr HBw.out 1 _ rfl; have r2 := hc wr HBw.out 2 _ rfl; have HCall := hide (HNa.out wr HBw.out x.ty [.int .i64 x.ty.kind, .string ⟨x.ty.name.toArray⟩] ⟨rfl, hl2⟩); have HSt := hide (fun hp => HNon.out HForm2.out HForm3.out HNd1.out HNd2.out (.inl (Ly.all_stop (p := fun f : Pp.Fld => Ly.namedG l f.ty) hx hp))); have HTk := hide (fun hp => Ly.all_take (p := fun f : Pp.Fld => Ly.namedG l f.ty) HA.out hx hp); have hlt' : (k : Int) < (nf : Int) := by omega
                  try simp only at HSt
                  try simp only at HTk
                  generalize Ly.namedG l x.ty = px at HCall HSt HTk; clear hx hc hl1 hl2 HA; go_wp2_with fail; refine HCall.out.mono ?_; rintro e w5 ⟨rfl, hb5⟩; have HB5 := hide (HB.out.trans (hb5.mono HB.out.size)); clear HCall hb5; cases px with
                  | false =>
                    have HF := hide (HSt.out rfl); clear HSt HTk; go_wp2_with fail; go_ret; exact ⟨by rw [HF.out]; rfl, HB0.out.trans (HB5.out.mono HB0.out.size)⟩
                  | true =>
                    have HA2 := hide (HTk.out rfl); clear HSt HTk; go_wp2_with fail
                    go_roundw
                    case rel => exact ⟨k + 1, by omega, by go_num, HB5, HA2⟩
                    case measure => simp [intOf]; omega
                · have HNm1 : Hid (c.fields.all (fun f => Ly.namedG l f.ty) = true) := hide (Ly.all_end HA.out (by rw [<- HNf.out]; omega))
                  have hnl : ¬ ((k : Int) < (nf : Int)) := by omega
                  clear HA; go_wp2_with fail
                  go_loopw [13] (fun i wr => ∃ k : Nat, k <= nm /\ i = .int .i64 k /\ Hid (Below wa.heap.size wa wr) /\ Hid ((c.methods.take k).all (Ly.mNamG l) = true)) (fun i _ => nm - (intOf i).toNat)
                  case atStart => exact ⟨0, Nat.zero_le _, rfl, HB, hide (by simp)⟩
                  case round =>
                   clear HB HBw c4; obtain ⟨k, hk, rfl, HB, HA⟩ := hrel; have HBw := hide (HB0.out.trans (HB.out.mono HB0.out.size)); have hX1 := (HB.out.block _ (Ow.lt_of_blk HX0.out)).trans HX0.out; have c5 := cell_box hX1 5; clear hX1; by_cases hlt : k < nm
                   ·
                    obtain ⟨m, hx⟩ : ∃ x, c.methods[k]? = some x := ⟨c.methods[k]'(by rw [<- HNm.out]; exact hlt), List.getElem?_eq_getElem _⟩
                    obtain ⟨g, o, rfl, ys, wf, hc⟩ := Ow.row_at' HRm.out hx; have hG := hide (hc wr HBw.out); have HXm := hide hx; have hmp := HPm.out m (List.mem_of_getElem? hx); clear hc hx; obtain ⟨vp, vc, vk, rfl, z1, z2, z3, _, hrl, _⟩ := wf; have HRp := hide z1; have HRl := hide hrl; obtain ⟨ap, cp, rfl, _⟩ := z1.len; obtain ⟨ac, cc, rfl, _⟩ := z2.len; obtain ⟨ak, ck, rfl, _⟩ := z3.len; clear z1 z2 z3 hrl; have r0 := hG.out 0 _ rfl; have r1 := hG.out 1 _ rfl; have r2 := hG.out 2 _ rfl; have r3 := hG.out 3 _ rfl; have r4 := hG.out 4 _ rfl; have r5 := hG.out 5 _ rfl; have r6 := hG.out 6 _ rfl; have r7 := hG.out 7 _ rfl; have r8 := hG.out 8 _ rfl; rw [Nat.add_zero] at r0; clear hG; obtain ⟨np, hnp⟩ : ∃ q, q = m.params.length := ⟨_, rfl⟩; have HNp := hide hnp; rw [<- hnp] at r3 HRp hmp; clear hnp; have hp1 : (np : Int) <= 100 := by omega
                    have hlt' : (k : Int) < (nm : Int) := by omega
                    have hA : Below wr.heap.size wr (wr.alloc (.cells #[.string ⟨m.name.toArray⟩, .bool m.stat, .bool m.abst, .slice ap np cp, .int .i64 m.ret.kind, .string ⟨m.ret.name.toArray⟩, .int .i64 m.locals, .slice ac m.code.length cc, .slice ak m.catches.length ck] 39)) := (Below.refl _ _).alloc (Nat.le_refl _) _; have HBA := hide (HB.out.trans (hA.mono HB.out.size)); have hbx := heap_alloc_new wr (.cells #[.string ⟨m.name.toArray⟩, .bool m.stat, .bool m.abst, .slice ap np cp, .int .i64 m.ret.kind, .string ⟨m.ret.name.toArray⟩, .int .i64 m.locals, .slice ac m.code.length cc, .slice ak m.catches.length ck] 39); have HBx := hide hbx; have b0 := cell_box hbx 0; have b1 := cell_box hbx 1; have b2 := cell_box hbx 2; have b3 := cell_box hbx 3; have b4 := cell_box hbx 4; have b5 := cell_box hbx 5; have b6 := cell_box hbx 6; have b7 := cell_box hbx 7; have b8 := cell_box hbx 8; clear hA hbx; have HCall := hide (HNa.out _ (HB0.out.trans (HBA.out.mono HB0.out.size)) m.ret [.int .i64 m.ret.kind, .string ⟨m.ret.name.toArray⟩] ⟨rfl, HRl.out⟩); have HSt : Hid ((Ly.namedG l m.ret && m.params.all (Ly.namedG l)) = false -> r = 5) := hide (fun hp => HNon.out HForm2.out HForm3.out HNd1.out HNd2.out (.inr (Ly.all_stop (p := Ly.mNamG l) HXm.out hp))); have HTk : Hid ((Ly.namedG l m.ret && m.params.all (Ly.namedG l)) = true -> (c.methods.take (k + 1)).all (Ly.mNamG l) = true) := hide (fun hp => Ly.all_take (p := Ly.mNamG l) HA.out HXm.out hp); generalize Ly.namedG l m.ret = px at HCall HSt HTk; clear HA; go_wp2_with fail; refine HCall.out.mono ?_; rintro e w5 ⟨rfl, hb5⟩; have HB5 := hide (HBA.out.trans (hb5.mono HBA.out.size)); have HX5 := hide ((hb5.block _ (Ow.lt_of_blk HBx.out)).trans HBx.out); clear HCall hb5; cases px with
                    | false =>
                      have HF := hide (HSt.out rfl); clear HSt HTk; go_wp2_with fail; go_ret; exact ⟨by rw [HF.out]; rfl, HB0.out.trans (HB5.out.mono HB0.out.size)⟩
                    | true =>
                      have HSt2 : Hid (m.params.all (Ly.namedG l) = false -> r = 5) := hide fun h => HSt.out (by rw [h]; rfl)
                      have HTk2 : Hid (m.params.all (Ly.namedG l) = true -> (c.methods.take (k + 1)).all (Ly.mNamG l) = true) := hide fun h => HTk.out (by rw [h]; rfl)
                      clear HSt HTk; go_wp2_with fail
                      go_loopw [15] (fun i wr => ∃ j : Nat, j <= np /\ i = .int .i64 j /\ Hid (Below w5.heap.size w5 wr) /\ Hid ((m.params.take j).all (Ly.namedG l) = true)) (fun i _ => np - (intOf i).toNat)
                      case atStart => exact ⟨0, Nat.zero_le _, rfl, hide (Below.refl _ _), hide (by simp)⟩
                      case round =>
                       obtain ⟨j, hj, rfl, HBj, HJ⟩ := hrel; have HBa := hide (HB5.out.trans (HBj.out.mono HB5.out.size)); have hX6 := (HBj.out.block _ (Ow.lt_of_blk HX5.out)).trans HX5.out; have d3 := cell_box hX6 3; clear hX6; by_cases hjl : j < np
                       · obtain ⟨t, ht⟩ : ∃ x, m.params[j]? = some x := ⟨m.params[j]'(by rw [<- HNp.out]; exact hjl), List.getElem?_eq_getElem _⟩
                         obtain ⟨g2, o2, rfl, ts, tf, hct⟩ := Ow.row_at' HRp.out ht; have htf := tf; obtain ⟨rfl, hl2⟩ := tf; have s0 := hct wr (HB0.out.trans (HBa.out.mono HB0.out.size)) 0 _ rfl; have s1 := hct wr (HB0.out.trans (HBa.out.mono HB0.out.size)) 1 _ rfl; rw [Nat.add_zero] at s0; have HCall := hide (HNa.out wr (HB0.out.trans (HBa.out.mono HB0.out.size)) t [.int .i64 t.kind, .string ⟨t.name.toArray⟩] ⟨rfl, hl2⟩); have HSj := hide (fun hp => HSt2.out (Ly.all_stop (p := Ly.namedG l) ht hp)); have HTj := hide (fun hp => Ly.all_take (p := Ly.namedG l) HJ.out ht hp); have hjl' : (j : Int) < (np : Int) := by omega
                         generalize Ly.namedG l t = pt at HCall HSj HTj; clear ht hct htf hl2 HJ; go_wp2_with fail; refine HCall.out.mono ?_; rintro e w7 ⟨rfl, hb7⟩; have HB7 := hide (HBj.out.trans (hb7.mono HBj.out.size)); have HB7a := hide (HBa.out.trans (hb7.mono HBa.out.size)); clear HCall hb7; cases pt with
                         | false =>
                           have HF := hide (HSj.out rfl); clear HSj HTj; go_wp2_with fail; go_ret; exact ⟨by rw [HF.out]; rfl, HB0.out.trans (HB7a.out.mono HB0.out.size)⟩
                         | true =>
                           have HJ2 := hide (HTj.out rfl); clear HSj HTj; go_wp2_with fail
                           go_roundw
                           case rel => exact ⟨j + 1, by omega, by go_num, HB7, HJ2⟩
                           case measure => simp [intOf]; omega
                       · have HA2 := hide (HTk2.out (Ly.all_end HJ.out (by rw [<- HNp.out]; omega)))
                         have hjn : ¬ ((j : Int) < (np : Int)) := by omega
                         clear HJ; go_wp2_with fail
                         go_roundw
                         case rel => exact ⟨k + 1, by omega, by go_num, HBa, HA2⟩
                         case measure => simp [intOf]; omega
                   · have HF := hide (HOkk.out HForm2.out HForm3.out HNd1.out HNd2.out HNm1.out (Ly.all_end HA.out (by rw [<- HNm.out]; omega)))
                     have hnl : ¬ ((k : Int) < (nm : Int)) := by omega
                     clear HA; go_wp2_with fail; go_ret; exact ⟨by rw [HF.out]; rfl, HBw.out⟩
end Go.Proofs.YtjlappamkfjlkaaGreatDoor

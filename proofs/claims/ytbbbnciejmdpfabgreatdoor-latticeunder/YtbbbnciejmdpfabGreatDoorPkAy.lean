/- What the laws of this seat lean on: 4 texts. -/
import Derived.Test.YtbbbnciejmdpfabGreatDoorPkAw
import Derived.Test.YtbbbnciejmdpfabGreatDoorPkAx
import Derived.Test.YtbbbnciejmdpfabGreatDoorPkAb
import Derived.BigQuiet
import Derived.Deep.QuietTactic
import Derived.WalkSmall
set_option maxRecDepth 100000
set_option maxHeartbeats 64000000
set_option linter.unusedVariables false
set_option linter.unusedSimpArgs false
namespace Go.Proofs.YtbbbnciejmdpfabGreatDoor
open Go.RowKit
theorem fx_put {S : Nat -> Prop} {b : Nat} {w x : World} (h : Fx S w x) (hb : S b) (k : Nat) (u : Value) : Fx S w (x.setCell ⟨b, k, none⟩ u) := h.trans (Fx.set hb u)
theorem method_any (N : Net) (hG : N.Good) (hN : N.Small) (w0 : World) (x : Nat) (hT : N.T x) (n : Pp.Bs) (w : World) (A : Nat -> Prop) (h : Rdy N w0 w A) :
 Calls Tryz.prog 96 #[.pointer (some ⟨x, 0, none⟩), .string ⟨n.toArray⟩] w fun e w' => FoundO w0 (Ly.methP N x n) e /\ Rdy N w0 w' A /\ Fx N.T w w' := by
 have HM := hide (made_rdy N hG hN w0 x hT _ _ (h.alloc (.cells #[.string ⟨#[]⟩, .string ⟨#[]⟩, .bool false, .bool false, .slice none 0 0, .int .i64 0, .string ⟨#[]⟩, .int .i64 0, .slice none 0 0, .slice none 0 0] 150))); have HMt := hide (hN.mt x hT); have hfa : Fx (fun k => k = w.heap.size) w (w.alloc (.cells #[.string ⟨#[]⟩, .string ⟨#[]⟩, .bool false, .bool false, .slice none 0 0, .int .i64 0, .string ⟨#[]⟩, .int .i64 0, .slice none 0 0, .slice none 0 0] 150)) := Fx.alloc _ _ _; have HFa := hide hfa; have HX0 := hide (heap_alloc_new w (.cells #[.string ⟨#[]⟩, .string ⟨#[]⟩, .bool false, .bool false, .slice none 0 0, .int .i64 0, .string ⟨#[]⟩, .int .i64 0, .slice none 0 0, .slice none 0 0] 150)); have HnT : Hid (∀ k, N.T k -> k ≠ w.heap.size) := hide fun k hk e => by have := (h.2.2.1 k hk).2; omega
 have HLs : Hid (∀ k, k < w.heap.size -> k ≠ w.heap.size) := hide fun k hk e => by omega
 clear h hT hG hN hfa; go_enter Tryz.func96, Tryz.ntmps96; go_wp2_with fail; generalize w.alloc (.cells #[.string ⟨#[]⟩, .string ⟨#[]⟩, .bool false, .bool false, .slice none 0 0, .int .i64 0, .string ⟨#[]⟩, .int .i64 0, .slice none 0 0, .slice none 0 0] 150) = wa at *
 refine HM.out.mono ?_; rintro e w1 ⟨rfl, hr1, hf1, cs, hcs, vs, vm, va, _, e12, _, _, hm2, _⟩; have HR1 := hide hr1; have HF1 := hide hf1; have HX1 := hide ((hf1.blk _ (Ow.lt_of_blk HX0.out) fun hk => HnT.out _ hk rfl).trans HX0.out); have HFind := hide (findO_any w0 (N.mt x) vm n w1 hm2.row HMt.out); obtain ⟨ma, mc, rfl, _⟩ := hm2.row.len; have c12 := (cell_box hcs 12).trans e12; clear HM hr1 hf1 hcs e12 hm2 HX0; go_wp2_with fail; refine HFind.out.mono ?_; rintro e w2 ⟨⟨zs, rfl, hz1, hz2⟩, hb2⟩; have HR2 := hide (HR1.out.on hb2); have HF2 := hide (HF1.out.trans (Fx.below hb2)); have HX2 := hide ((hb2.block _ (Ow.lt_of_blk HX1.out)).trans HX1.out); have hres : (N.mt x).find? (fun o => o.2.name == n) = Ly.methP N x n := rfl; rw [hres] at hz1 hz2 ⊢
 have HEnd : Hid (∀ w3, Fx (fun k => k = w.heap.size) w2 w3 -> Rdy N w0 w3 A /\ Fx N.T w w3) := hide fun w3 hf => by
  refine ⟨(HR2.out.put hf fun k hk => .inr hk).less fun k hk => .inl hk, ((HFa.out.trans (hf.bel.size |> fun _ => Fx.refl _ _)).bel.trans (HF2.out.bel.trans hf.bel)), fun k hk hn => ?_⟩
  have h1 := HFa.out.blk k hk (HLs.out k hk); have h2 := HF2.out.blk k (Nat.lt_of_lt_of_le hk HFa.out.size) hn; have h3 := hf.blk k (Nat.lt_of_lt_of_le (Nat.lt_of_lt_of_le hk HFa.out.size) HF2.out.size) (HLs.out k hk); exact h3.trans (h2.trans h1)
 clear HR1 HF1 HX1 HFind hb2 hres c12 HR2 HF2 HFa HnT HLs; have HZ1 := hide hz1; have HZ2 := hide hz2; clear hz1 hz2; cases hm : Ly.methP N x n with
 | none =>
   have hzs := HZ2.out hm; subst hzs; clear HZ1 HZ2; simp only [zeroO, List.toArray]; have HMp := hide hm; clear hm; have f0 := Ow.fzl_blk HX2.out 0; have f1 := Ow.fzl_blk HX2.out 1; have f2 := Ow.fzl_blk HX2.out 2; have f3 := Ow.fzl_blk HX2.out 3; have f4 := Ow.fzl_blk HX2.out 4; have f5 := Ow.fzl_blk HX2.out 5; have f6 := Ow.fzl_blk HX2.out 6; have f7 := Ow.fzl_blk HX2.out 7; have f8 := Ow.fzl_blk HX2.out 8; have f9 := Ow.fzl_blk HX2.out 9; have q0 := cell_box HX2.out 0; have q1 := cell_box HX2.out 1; have q2 := cell_box HX2.out 2; have q3 := cell_box HX2.out 3; have q4 := cell_box HX2.out 4; have q5 := cell_box HX2.out 5; have q6 := cell_box HX2.out 6; have q7 := cell_box HX2.out 7; have q8 := cell_box HX2.out 8; have q9 := cell_box HX2.out 9; go_wp2_with fail; refine bodyPost_ret (v := .tuple #[.agg zeroO.toArray, .bool false]) (by simp [results, Tryz.results96, go_sem, zeroO, *]) rfl ?_
   refine ⟨FoundO.no HMp.out, HEnd.out _ ?_⟩
   iterate 10 refine fx_put (S := fun k => k = w.heap.size) ?_ rfl _ _
   exact Fx.refl _ _
 | some o =>
   have HO := hide (HZ1.out o hm); have ho := HZ1.out o hm; obtain ⟨_, rfl, vp, vc, vk, rfl, x1, x2, x3, _⟩ := ho; obtain ⟨va1, vd1, rfl, _⟩ := x1.len; obtain ⟨va2, vd2, rfl, _⟩ := x2.len; obtain ⟨va3, vd3, rfl, _⟩ := x3.len; clear x1 x2 x3 HZ1 HZ2; simp only [mthXL, List.toArray] at HO ⊢; have HMp := hide hm; clear hm; have f0 := Ow.fzl_blk HX2.out 0; have f1 := Ow.fzl_blk HX2.out 1; have f2 := Ow.fzl_blk HX2.out 2; have f3 := Ow.fzl_blk HX2.out 3; have f4 := Ow.fzl_blk HX2.out 4; have f5 := Ow.fzl_blk HX2.out 5; have f6 := Ow.fzl_blk HX2.out 6; have f7 := Ow.fzl_blk HX2.out 7; have f8 := Ow.fzl_blk HX2.out 8; have f9 := Ow.fzl_blk HX2.out 9; have q0 := cell_box HX2.out 0; have q1 := cell_box HX2.out 1; have q2 := cell_box HX2.out 2; have q3 := cell_box HX2.out 3; have q4 := cell_box HX2.out 4; have q5 := cell_box HX2.out 5; have q6 := cell_box HX2.out 6; have q7 := cell_box HX2.out 7; have q8 := cell_box HX2.out 8; have q9 := cell_box HX2.out 9; go_wp2_with fail; refine bodyPost_ret (v := .tuple #[.agg #[.string ⟨o.1.toArray⟩, .string ⟨o.2.name.toArray⟩, .bool o.2.stat, .bool o.2.abst, .slice va1 o.2.params.length vd1, .int .i64 o.2.ret.kind, .string ⟨o.2.ret.name.toArray⟩, .int .i64 o.2.locals, .slice va2 o.2.code.length vd2, .slice va3 o.2.catches.length vd3], .bool true]) (by simp [results, Tryz.results96, go_sem, *]) rfl ?_
   refine ⟨FoundO.yes HMp.out HO.out, HEnd.out _ ?_⟩
   iterate 10 refine fx_put (S := fun k => k = w.heap.size) ?_ rfl _ _
   exact Fx.refl _ _
theorem hasSlot_any (N : Net) (hG : N.Good) (hN : N.Small) (w0 : World) (x : Nat) (hT : N.T x) (n : Pp.Bs) (w : World) (A : Nat -> Prop) (h : Rdy N w0 w A) :
 Calls Tryz.prog 95 #[.pointer (some ⟨x, 0, none⟩), .string ⟨n.toArray⟩] w fun e w' => e = .returned (.bool (Ly.slotP N x n)) /\ Rdy N w0 w' A /\ Fx N.T w w' := by
 have hb0 := (Below.refl w.heap.size w).alloc (Nat.le_refl _) (.cells #[.string ⟨n.toArray⟩] 9); have HM := hide (made_rdy N hG hN w0 x hT _ _ (h.on hb0)); have HSl := hide (hN.sl x hT); have HFa := hide (Fx.below (S := N.T) hb0); have HX0 := hide (heap_alloc_new w (.cells #[.string ⟨n.toArray⟩] 9)); have HnT : Hid (∀ k, N.T k -> k ≠ w.heap.size) := hide fun k hk e => by have := (h.2.2.1 k hk).2; omega
 clear h hT hG hN hb0; have hmf : ∀ (fn : Fn) (first cap : Array Value) (w : World), (Instr.makeFunc fn first cap).run Tryz.prog w = .ok (.func fn first cap) w := fun _ _ _ _ => rfl
 go_enter Tryz.func95, Tryz.ntmps95; go_wp2_with fail; generalize w.alloc (.cells #[.string ⟨n.toArray⟩] 9) = wa at *
 refine HM.out.mono ?_; rintro e w1 ⟨rfl, hr1, hf1, cs, hcs, vs, vm, va, e11, _, _, hm1, _, _⟩; have HR1 := hide hr1; have HF1 := hide (HFa.out.trans hf1); have HX1 := hide ((hf1.blk _ (Ow.lt_of_blk HX0.out) fun hk => HnT.out _ hk rfl).trans HX0.out); have HCf := hide (cfSl_any (N.sl x) vs ⟨w.heap.size, 0, none⟩ (fun s => s.name == n) w1 hm1.row HSl.out fun s ys _ hp wx hb => hs1_any s ys ⟨w.heap.size, 0, none⟩ n wx hp ((cell_box ((hb.block _ (Ow.lt_of_blk HX1.out)).trans HX1.out) 0).trans rfl) (Nat.lt_of_lt_of_le (Ow.lt_of_blk HX1.out) hb.size)); obtain ⟨ma, mc, rfl, _⟩ := hm1.row.len; have c11 := (cell_box hcs 11).trans e11; clear HM hr1 hf1 hcs e11 hm1 HX0 HX1 HFa HnT; go_wp2_with fail; refine HCf.out.mono ?_; rintro e w2 ⟨rfl, hb2⟩; have HR2 := hide (HR1.out.on hb2); have HF2 := hide (HF1.out.trans (Fx.below hb2)); clear HR1 HF1 HCf hb2 c11; go_wp2_with fail; go_ret; exact ⟨rfl, HR2.out, HF2.out⟩
namespace Eq
def Is {α : Type} (x y : α) (e : Ending) : Prop := ∃ b, e = .returned (.bool b) /\ (b = true ↔ x = y)
theorem yes {α : Type} {x y : α} (h : x = y) : Is x y (.returned (.bool true)) := ⟨true, rfl, ⟨fun _ => h, fun _ => rfl⟩⟩
theorem no {α : Type} {x y : α} (h : x ≠ y) : Is x y (.returned (.bool false)) := ⟨false, rfl, ⟨fun hh => absurd hh (by decide), fun e => absurd e h⟩⟩
theorem row_at {α : Type} {W : World} {sz : Nat} {P : α -> List Value -> Prop} {a : Option Addr} {n c : Nat} {l : List α} (h : RowX W sz P (.slice a n c) l) {k : Nat} {x : α} (hx : l[k]? = some x) : ∃ b o, a = some ⟨b, o, none⟩ /\ ∃ ys, P x ys /\ ∀ wx, Below W.heap.size W wx -> ∀ (j : Nat) (u : Value), ys[j]? = some u -> wx.cell? ⟨b, o + k * sz + j, none⟩ = some u := by
 obtain ⟨a', c', e, hc, h⟩ := h; injection e with e1 e2 e3; subst e1
 rcases h with rfl | ⟨b, o, rfl, hlt, hr⟩
 · simp at hx
 · obtain ⟨ys, h1, h2⟩ := hr k x hx
   exact ⟨b, o, rfl, ys, h1, fun wx hb j u hj => (hb.cell (by exact hlt)).trans (h2 j u hj)⟩
theorem take_step {α : Type} {l1 l2 : List α} {k : Nat} {x : α} (h : l1.take k = l2.take k) (h1 : l1[k]? = some x) (h2 : l2[k]? = some x) : l1.take (k + 1) = l2.take (k + 1) := by
 rw [List.take_add_one, List.take_add_one, h, h1, h2]
theorem take_end {α : Type} {l1 l2 : List α} {k : Nat} (h : l1.take k = l2.take k) (h1 : l1.length <= k) (h2 : l2.length <= k) : l1 = l2 := by
 rw [List.take_of_length_le h1, List.take_of_length_le h2] at h; exact h
theorem ne_at {α : Type} {l1 l2 : List α} {k : Nat} {x y : α} (h1 : l1[k]? = some x) (h2 : l2[k]? = some y) (h : x ≠ y) : l1 ≠ l2 := fun e => by
 rw [e, h2] at h1; injection h1 with h1; exact h h1.symm
end Eq
theorem Types_eq (l1 l2 : List Pp.Ty) (v1 v2 : Value) (w : World) (h1 : RowX w 2 TyX v1 l1) (h2 : RowX w 2 TyX v2 l2) (n1 : l1.length <= 100000) (n2 : l2.length <= 100000) :
 Calls Tryz.prog 58 #[v1, v2] w fun e w' => Eq.Is l1 l2 e /\ Below w.heap.size w w' := by
 obtain ⟨a1, c1, rfl, _⟩ := h1.len; obtain ⟨a2, c2, rfl, _⟩ := h2.len; have H1 := hide h1; have H2 := hide h2; obtain ⟨m1, hm1⟩ : ∃ m, m = l1.length := ⟨_, rfl⟩; obtain ⟨m2, hm2⟩ : ∃ m, m = l2.length := ⟨_, rfl⟩; have HM1 := hide hm1; have HM2 := hide hm2; rw [<- hm1] at H1 n1 ⊢; rw [<- hm2] at H2 n2 ⊢; clear h1 h2 hm1 hm2; by_cases hne : m1 = m2
 · subst hne
   go_enter Tryz.func58, Tryz.ntmps58; go_wp2_with fail
   go_loopw [5] (fun i wr => ∃ k : Nat, k <= m1 /\ i = .int .i64 k /\ Below w.heap.size w wr /\ Hid (l1.take k = l2.take k)) (fun i _ => m1 - (intOf i).toNat)
   case atStart => exact ⟨0, Nat.zero_le _, rfl, Below.refl _ _, rfl⟩
   case round =>
    obtain ⟨k, hk, rfl, hbel, HT⟩ := hrel; by_cases hlt : k < m1
    · obtain ⟨x, hx⟩ : ∃ x, l1[k]? = some x := ⟨l1[k]'(by rw [<- HM1.out]; exact hlt), List.getElem?_eq_getElem _⟩
      obtain ⟨y, hy⟩ : ∃ y, l2[k]? = some y := ⟨l2[k]'(by rw [<- HM2.out]; exact hlt), List.getElem?_eq_getElem _⟩
      obtain ⟨g1, o1, rfl, ys1, e1, hc1⟩ := Eq.row_at H1.out hx; obtain ⟨g2, o2, rfl, ys2, e2, hc2⟩ := Eq.row_at H2.out hy; obtain rfl : ys1 = _ := e1.1; obtain rfl : ys2 = _ := e2.1; have r0 := hc1 wr hbel 0 _ rfl; have r1 := hc1 wr hbel 1 _ rfl; have s0 := hc2 wr hbel 0 _ rfl; have s1 := hc2 wr hbel 1 _ rfl; rw [Nat.add_zero] at r0 s0; have HX := hide hx; have HY := hide hy; clear hc1 hc2 hx hy e1 e2; have hlt' : (k : Int) < (m1 : Int) := by omega
      obtain ⟨kx, nx⟩ := x; obtain ⟨ky, ny⟩ := y; simp only at r0 r1 s0 s1; by_cases ek : kx = ky
      · subst ek
        by_cases en : nx = ny
        · subst en
          have HS := hide (Eq.take_step HT.out HX.out HY.out); generalize (⟨nx.toArray⟩ : ByteArray) = S at *
          go_wp2_with fail
          go_quiet (fail)
          go_wp2_with fail
          go_roundw
          case rel => exact ⟨k + 1, by omega, by go_num, by first | exact hbel | exact below_drewN hbel _, HS⟩
          case measure => simp [intOf]; omega
        · have HN := hide (Eq.ne_at HX.out HY.out (fun e => en (by injection e)))
          have en' : (nx == ny) = false := by simpa using en
          go_wp2_with fail
          go_quiet (fail)
          go_wp2_with fail; go_ret; exact ⟨Eq.no HN.out, by first | exact hbel | exact below_drewN hbel _⟩
      · have HN := hide (Eq.ne_at HX.out HY.out (fun e => ek (by injection e)))
        have ek' : (kx == ky) = false := by simpa using ek
        go_wp2_with fail
        go_quiet (fail)
        go_wp2_with fail; go_ret; exact ⟨Eq.no HN.out, by first | exact hbel | exact below_drewN hbel _⟩
    · have HE := hide (Eq.take_end HT.out (by rw [<- HM1.out]; omega) (by rw [<- HM2.out]; omega))
      go_wp2_with fail; go_ret; exact ⟨Eq.yes HE.out, hbel⟩
 · have hne' : ((m1 : Int) != (m2 : Int)) = true := by simp; omega
   have HN : Hid (l1 ≠ l2) := hide (fun e => hne (by rw [HM1.out, HM2.out, e]))
   go_enter Tryz.func58, Tryz.ntmps58; go_wp2_with fail; go_ret; exact ⟨Eq.no HN.out, Below.refl _ _⟩
theorem eqTy_any (l1 l2 : List Pp.Ty) (v1 v2 : Value) (w : World) (h1 : RowX w 2 TyX v1 l1) (h2 : RowX w 2 TyX v2 l2) (n1 : l1.length <= 100000) (n2 : l2.length <= 100000) :
 Calls Tryz.prog 116 #[v1, v2] w fun e w' => Eq.Is l1 l2 e /\ Below w.heap.size w w' := by
 obtain ⟨a1, c1, rfl, _⟩ := h1.len; obtain ⟨a2, c2, rfl, _⟩ := h2.len; have H1 := hide h1; have H2 := hide h2; obtain ⟨m1, hm1⟩ : ∃ m, m = l1.length := ⟨_, rfl⟩; obtain ⟨m2, hm2⟩ : ∃ m, m = l2.length := ⟨_, rfl⟩; have HM1 := hide hm1; have HM2 := hide hm2; rw [<- hm1] at H1 n1 ⊢; rw [<- hm2] at H2 n2 ⊢; clear h1 h2 hm1 hm2; by_cases hne : m1 = m2
 · subst hne
   go_enter Tryz.func116, Tryz.ntmps116; go_wp2_with fail
   go_loopw [13] (fun i wr => ∃ k : Nat, k <= m1 /\ i = .int .i64 k /\ Below w.heap.size w wr /\ Hid (l1.take k = l2.take k)) (fun i _ => m1 - (intOf i).toNat)
   case atStart => exact ⟨0, Nat.zero_le _, rfl, Below.refl _ _, rfl⟩
   case round =>
    obtain ⟨k, hk, rfl, hbel, HT⟩ := hrel; by_cases hlt : k < m1
    · obtain ⟨x, hx⟩ : ∃ x, l1[k]? = some x := ⟨l1[k]'(by rw [<- HM1.out]; exact hlt), List.getElem?_eq_getElem _⟩
      obtain ⟨y, hy⟩ : ∃ y, l2[k]? = some y := ⟨l2[k]'(by rw [<- HM2.out]; exact hlt), List.getElem?_eq_getElem _⟩
      obtain ⟨g1, o1, rfl, ys1, e1, hc1⟩ := Eq.row_at H1.out hx; obtain ⟨g2, o2, rfl, ys2, e2, hc2⟩ := Eq.row_at H2.out hy; obtain rfl : ys1 = _ := e1.1; obtain rfl : ys2 = _ := e2.1; have r0 := hc1 wr hbel 0 _ rfl; have r1 := hc1 wr hbel 1 _ rfl; have s0 := hc2 wr hbel 0 _ rfl; have s1 := hc2 wr hbel 1 _ rfl; rw [Nat.add_zero] at r0 s0; have HX := hide hx; have HY := hide hy; clear hc1 hc2 hx hy e1 e2; have hlt' : (k : Int) < (m1 : Int) := by omega
      obtain ⟨kx, nx⟩ := x; obtain ⟨ky, ny⟩ := y; simp only at r0 r1 s0 s1; by_cases ek : kx = ky
      · subst ek
        by_cases en : nx = ny
        · subst en
          have HS := hide (Eq.take_step HT.out HX.out HY.out); generalize (⟨nx.toArray⟩ : ByteArray) = S at *
          go_wp2_with fail
          go_quiet (fail)
          go_wp2_with fail
          go_roundw
          case rel => exact ⟨k + 1, by omega, by go_num, by first | exact hbel | exact below_drewN hbel _, HS⟩
          case measure => simp [intOf]; omega
        · have HN := hide (Eq.ne_at HX.out HY.out (fun e => en (by injection e)))
          have en' : (nx == ny) = false := by simpa using en
          go_wp2_with fail
          go_quiet (fail)
          go_wp2_with fail; go_ret; exact ⟨Eq.no HN.out, by first | exact hbel | exact below_drewN hbel _⟩
      · have HN := hide (Eq.ne_at HX.out HY.out (fun e => ek (by injection e)))
        have ek' : (kx == ky) = false := by simpa using ek
        go_wp2_with fail
        go_quiet (fail)
        go_wp2_with fail; go_ret; exact ⟨Eq.no HN.out, by first | exact hbel | exact below_drewN hbel _⟩
    · have HE := hide (Eq.take_end HT.out (by rw [<- HM1.out]; omega) (by rw [<- HM2.out]; omega))
      go_wp2_with fail; go_ret; exact ⟨Eq.yes HE.out, hbel⟩
 · have hne' : ((m1 : Int) != (m2 : Int)) = true := by simp; omega
   have HN : Hid (l1 ≠ l2) := hide (fun e => hne (by rw [HM1.out, HM2.out, e]))
   go_enter Tryz.func116, Tryz.ntmps116; go_wp2_with fail; go_ret; exact ⟨Eq.no HN.out, Below.refl _ _⟩
theorem alike_any (p q : Pp.XMth) (ys1 ys2 : List Value) (w : World) (h1 : MthX w p ys1) (h2 : MthX w q ys2) (n1 : p.params.length <= 1000) (n2 : q.params.length <= 1000) :
 Calls Tryz.prog 97 #[.agg ys1.toArray, .agg ys2.toArray] w fun e w' => e = .returned (.bool (Ly.alikeB p q)) /\ Below w.heap.size w w' := by
 obtain ⟨vp, vc, vk, rfl, x1, x2, x3, _⟩ := h1; obtain ⟨up, uc, uk, rfl, y1, y2, y3, _⟩ := h2; have HE := hide (fun wx (hb : Below w.heap.size w wx) => eqTy_any p.params q.params vp up wx (x1.on hb fun _ _ h => h) (y1.on hb fun _ _ h => h) (by omega) (by omega))
 obtain ⟨va1, vd1, rfl, _⟩ := x1.len; obtain ⟨va2, vd2, rfl, _⟩ := x2.len; obtain ⟨va3, vd3, rfl, _⟩ := x3.len; obtain ⟨ua1, ud1, rfl, _⟩ := y1.len; obtain ⟨ua2, ud2, rfl, _⟩ := y2.len; obtain ⟨ua3, ud3, rfl, _⟩ := y3.len; clear x1 x2 x3 y1 y2 y3 n1 n2; obtain ⟨r, hr⟩ : ∃ r, r = Ly.alikeB p q := ⟨_, rfl⟩; have HR := hide (hr.trans (Bool.eq_iff_iff.2 (Iff.refl _))); have HI := hide (Ly.alikeB_iff p q); rw [<- hr] at HI ⊢; clear hr HR; obtain ⟨pn, ps, pa, pp, ⟨pk, pr⟩, pl, pc, px⟩ := p; obtain ⟨qn, qs, qa, qp, ⟨qk, qr⟩, ql, qc, qx⟩ := q; simp only [mthXL] at HE HI ⊢; generalize (⟨pn.toArray⟩ : ByteArray) = PN at *
 generalize (⟨qn.toArray⟩ : ByteArray) = QN at *
 have HB := hide (Ow.bel_alloc2 w (.cells #[.string PN, .bool ps, .bool pa, .slice va1 pp.length vd1, .int .i64 pk, .string ⟨pr.toArray⟩, .int .i64 pl, .slice va2 pc.length vd2, .slice va3 px.length vd3] 48) (.cells #[.string QN, .bool qs, .bool qa, .slice ua1 qp.length ud1, .int .i64 qk, .string ⟨qr.toArray⟩, .int .i64 ql, .slice ua2 qc.length ud2, .slice ua3 qx.length ud3] 48)); have hx1 := hide (Ow.blk_alloc2a w (.cells #[.string PN, .bool ps, .bool pa, .slice va1 pp.length vd1, .int .i64 pk, .string ⟨pr.toArray⟩, .int .i64 pl, .slice va2 pc.length vd2, .slice va3 px.length vd3] 48) (.cells #[.string QN, .bool qs, .bool qa, .slice ua1 qp.length ud1, .int .i64 qk, .string ⟨qr.toArray⟩, .int .i64 ql, .slice ua2 qc.length ud2, .slice ua3 qx.length ud3] 48)); have hx2 := hide (Ow.blk_alloc2b w (.cells #[.string PN, .bool ps, .bool pa, .slice va1 pp.length vd1, .int .i64 pk, .string ⟨pr.toArray⟩, .int .i64 pl, .slice va2 pc.length vd2, .slice va3 px.length vd3] 48) (.cells #[.string QN, .bool qs, .bool qa, .slice ua1 qp.length ud1, .int .i64 qk, .string ⟨qr.toArray⟩, .int .i64 ql, .slice ua2 qc.length ud2, .slice ua3 qx.length ud3] 48)); go_enter Tryz.func97, Tryz.ntmps97; go_wp2_with fail; generalize (w.alloc (.cells #[.string PN, .bool ps, .bool pa, .slice va1 pp.length vd1, .int .i64 pk, .string ⟨pr.toArray⟩, .int .i64 pl, .slice va2 pc.length vd2, .slice va3 px.length vd3] 48)).alloc (.cells #[.string QN, .bool qs, .bool qa, .slice ua1 qp.length ud1, .int .i64 qk, .string ⟨qr.toArray⟩, .int .i64 ql, .slice ua2 qc.length ud2, .slice ua3 qx.length ud3] 48) = wa at *
 refine (HE.out wa HB.out).mono ?_; rintro e w1 ⟨⟨b, rfl, hb⟩, hb1⟩; have HB1 := hide (HB.out.trans (hb1.mono HB.out.size)); have HX1 := (hb1.block _ (Ow.lt_of_blk hx1.out)).trans hx1.out; have HX2 := (hb1.block _ (Ow.lt_of_blk hx2.out)).trans hx2.out; have HQ := hide hb; clear hx1 hx2 HE hb hb1; cases b with
 | false =>
   have HF : Hid (r = false) := hide (by
    cases r with
    | false => rfl
    | true => exact absurd (HQ.out.2 (HI.out.1 rfl).1) (by decide))
   clear HQ HI HX1 HX2; go_wp2_with fail; go_ret; exact ⟨by rw [HF.out]; rfl, HB1.out⟩
 | true =>
   have HP := hide (HQ.out.1 rfl); have c4 := cell_box HX1 4; have c5 := cell_box HX1 5; have d4 := cell_box HX2 4; have d5 := cell_box HX2 5; clear HQ HX1 HX2; by_cases ek : pk = qk
   · by_cases en : pr = qr
     · have HF := hide (HI.out.2 ⟨HP.out, by rw [ek, en]⟩)
       subst ek en; clear HI HP; generalize (⟨pr.toArray⟩ : ByteArray) = S at *
       go_wp2_with fail; go_ret; exact ⟨by rw [HF.out]; simp, HB1.out⟩
     · have HF : Hid (r = false) := hide (by
        cases r with
        | false => rfl
        | true => have h := (HI.out.1 rfl).2; injection h with _ h; exact absurd h en)
       have en' : (pr == qr) = false := by simpa using en
       clear HI HP; go_wp2_with fail; go_ret; exact ⟨by rw [HF.out]; simp [en], HB1.out⟩
   · have HF : Hid (r = false) := hide (by
      cases r with
      | false => rfl
      | true => have h := (HI.out.1 rfl).2; injection h with h _; exact absurd h ek)
     have ek' : (pk == qk) = false := by simpa using ek
     clear HI HP; go_wp2_with fail; go_ret; exact ⟨by rw [HF.out]; simp [ek], HB1.out⟩
structure NetOk (N : Net) (l : List Pp.XCls) (bs : List Nat) : Prop where
 good : N.Good
 small : N.Small
 mem : ∀ b, N.T b ↔ b ∈ bs
 len : bs.length <= 1000
 find : ∀ n, (bs.find? fun b => (N.cl b).name == n).isSome = (Hr.placeL l n).isSome
 pars : ∀ b, N.T b -> ∀ m ∈ (N.cl b).methods, m.params.length <= 100
theorem Rdy.cls {N : Net} {w0 w : World} {A : Nat -> Prop} (h : Rdy N w0 w A) {b : Nat} (hb : N.T b) : ∃ cs ys, w.heap[b]? = some (.cells cs 140 (0, 0)) /\ ClsX w0 (N.cl b) ys /\ (∀ (j : Nat) (u : Value), ys[j]? = some u -> w.cell? ⟨b, j, none⟩ = some u) /\ w.cell? ⟨b, 6, none⟩ = some (.pointer ((N.sup b).map fun s => ⟨s, 0, none⟩)) := by
 obtain ⟨cs, h1, h2, ⟨ys, h3, h4⟩, h6, _⟩ := h.head hb; exact ⟨cs, ys, h1, h3, fun j u hu => (cell_box h1 j).trans (h4 j u hu), (cell_box h1 6).trans h6⟩
theorem Rdy.name {N : Net} {w0 w : World} {A : Nat -> Prop} (h : Rdy N w0 w A) {b : Nat} (hb : N.T b) : w.cell? ⟨b, 0, none⟩ = some (.string ⟨(N.cl b).name.toArray⟩) := by
 obtain ⟨cs, ys, h1, h2, h3, _⟩ := h.cls hb; obtain ⟨_, _, _, _, _, _, rfl, _⟩ := cls_open h2; exact h3 0 _ rfl
theorem memberFault_any (N : Net) (l : List Pp.XCls) (bs : List Nat) (v : Value) (b : Nat) (w0 w : World) (A : Nat -> Prop) (hok : NetOk N l bs) (hrdy : Rdy N w0 w A) (hrow : RowX w 1 PtrX v bs) (hb : N.T b) :
 Calls Tryz.prog 82 #[v, .pointer (some ⟨b, 0, none⟩)] w fun e w' => e = .returned (.int .i64 (Ly.memF l (N.cl b))) /\ Below w.heap.size w w' := by
 obtain ⟨cs, ys, hcs, hcl, hys, _⟩ := hrdy.cls hb; have hclw := hcl.on hrdy.1; have hlb := Ow.lt_of_blk hcs; have hf := hok.small.flds b hb; have hm := hok.small.mths b hb; have hp := hok.pars b hb; have HF := hide (fun wx (hx : Below w.heap.size w wx) => formed_any (N.cl b) ys wx (hclw.on hx) hf hm hp); have HT := hide (fun wx (hx : Below w.heap.size w wx) => ltwice_any (N.cl b) ys wx (hclw.on hx) hf hm)
 have HK := hide (fun wx (hx : Below w.heap.size w wx) => known_any l bs (fun b => (N.cl b).name) v (N.cl b) ys wx (hrow.on hx fun _ _ h => h) hok.len (fun q hq => Nat.lt_of_lt_of_le (hrdy.2.2.1 q ((hok.mem q).2 hq)).2 hx.size)
  (fun q hq => (hx.cell (by exact (hrdy.2.2.1 q ((hok.mem q).2 hq)).2)).trans (hrdy.name ((hok.mem q).2 hq))) hok.find (hclw.on hx) hf hm hp)
 have HC := hide (fun wx (hx : Below w.heap.size w wx) (j : Nat) (u : Value) (hu : ys[j]? = some u) => (hx.cell (p := ⟨b, j, none⟩) hlb).trans (hys j u hu)); obtain ⟨va, vc, rfl, _⟩ := hrow.len; obtain ⟨ia, ic, fa, fc, ma, mc, rfl, _⟩ := cls_open hcl; obtain ⟨r, hr⟩ : ∃ r, r = Ly.memF l (N.cl b) := ⟨_, rfl⟩; have HR := hide hr; rw [<- hr]; clear hr hcl hclw hys hcs hrow hrdy hok hb hf hm hp hlb; unfold Ly.memF at HR; generalize (⟨(N.cl b).name.toArray⟩ : ByteArray) = NB at *
 generalize (⟨(N.cl b).super.toArray⟩ : ByteArray) = SB at *
 generalize (N.cl b).iface = fi at *
 generalize (N.cl b).ifaces.length = ni at *
 generalize (N.cl b).fields.length = nf at *
 generalize (N.cl b).methods.length = nm' at *
 generalize bs.length = nb at *
 have c0 := HC.out w (Below.refl _ _) 0 _ rfl; have c1 := HC.out w (Below.refl _ _) 1 _ rfl; have c2 := HC.out w (Below.refl _ _) 2 _ rfl; have c3 := HC.out w (Below.refl _ _) 3 _ rfl; have c4 := HC.out w (Below.refl _ _) 4 _ rfl; have c5 := HC.out w (Below.refl _ _) 5 _ rfl; go_enter Tryz.func82, Tryz.ntmps82; go_wp2_with fail; refine (HF.out w (Below.refl _ _)).mono ?_; rintro e w1 ⟨rfl, hb1⟩; have HB1 := hide hb1; clear HF hb1; cases hfo : Ly.formedB (N.cl b) with
 | false =>
   have HQ : Hid (r = 4) := hide (by rw [HR.out, if_neg (by rw [hfo]; decide)])
   clear HR hfo; go_wp2_with fail; go_ret; exact ⟨by rw [HQ.out]; rfl, HB1.out⟩
 | true =>
   have HR1 : Hid (r = if Ly.twiceB (N.cl b) = true then 6 else if Ly.knownB l (N.cl b) = true then 0 else 5) := hide (by rw [HR.out, if_pos hfo])
   have d0 := HC.out w1 HB1.out 0 _ rfl; have d1 := HC.out w1 HB1.out 1 _ rfl; have d2 := HC.out w1 HB1.out 2 _ rfl; have d3 := HC.out w1 HB1.out 3 _ rfl; have d4 := HC.out w1 HB1.out 4 _ rfl; have d5 := HC.out w1 HB1.out 5 _ rfl; clear HR hfo; go_wp2_with fail; refine (HT.out w1 HB1.out).mono ?_; rintro e w2 ⟨⟨t, rfl, ht⟩, hb2⟩; have HB2 := hide (HB1.out.trans (hb2.mono HB1.out.size)); have HTw := hide ht; clear HT hb2 ht; cases t with
   | true =>
     have HQ : Hid (r = 6) := hide (by rw [HR1.out, if_pos ((Ly.twiceB_iff _).2 (HTw.out.1 rfl))])
     clear HR1 HTw; go_wp2_with fail; go_ret; exact ⟨by rw [HQ.out]; rfl, HB2.out⟩
   | false =>
     have HR2 : Hid (r = if Ly.knownB l (N.cl b) = true then 0 else 5) := hide (by rw [HR1.out, if_neg fun h => by have := HTw.out.2 ((Ly.twiceB_iff _).1 h); cases this])
     have e0 := HC.out w2 HB2.out 0 _ rfl; have e1 := HC.out w2 HB2.out 1 _ rfl; have e2 := HC.out w2 HB2.out 2 _ rfl; have e3 := HC.out w2 HB2.out 3 _ rfl; have e4 := HC.out w2 HB2.out 4 _ rfl; have e5 := HC.out w2 HB2.out 5 _ rfl; clear HR1 HTw; go_wp2_with fail; refine (HK.out w2 HB2.out).mono ?_; rintro e w3 ⟨rfl, hb3⟩; have HB3 := hide (HB2.out.trans (hb3.mono HB2.out.size)); clear HK hb3; cases hkn : Ly.knownB l (N.cl b) with
     | true =>
       have HQ : Hid (r = 0) := hide (by rw [HR2.out, if_pos hkn])
       clear HR2 hkn; go_wp2_with fail; go_ret; exact ⟨by rw [HQ.out]; rfl, HB3.out⟩
     | false =>
       have HQ : Hid (r = 5) := hide (by rw [HR2.out, if_neg (by rw [hkn]; decide)])
       clear HR2 hkn; go_wp2_with fail; go_ret; exact ⟨by rw [HQ.out]; rfl, HB3.out⟩
end Go.Proofs.YtbbbnciejmdpfabGreatDoor

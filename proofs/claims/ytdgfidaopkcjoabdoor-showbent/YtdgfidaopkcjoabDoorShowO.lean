/- What show's writer says of a method's body. -/
import Derived.Test.YtdgfidaopkcjoabDoorShowN
namespace Go.Proofs.YtdgfidaopkcjoabDoor
open Go.RowKit
set_option linter.unusedVariables false
set_option linter.unusedSimpArgs false

namespace Sh
theorem many_app {α : Type} (f : α → List Pp.Wd) (a b : List α) : Pp.manyW f (a ++ b) = Pp.manyW f a ++ Pp.manyW f b := by
  induction a with
  | nil => rfl
  | cons x r ih => simp only [List.cons_append, Pp.manyW, ih, List.append_assoc]
theorem manyT_take {α : Type} (f : α → List Pp.Wd) {l : List α} {k : Nat} {x : α} (h : l[k]? = some x) : Pp.wordsT (Pp.manyW f (l.take (k + 1))) = Pp.wordsT (Pp.manyW f (l.take k)) ++ Pp.wordsT (f x) := by
  rw [List.take_add_one, h, many_app, Pp.wordsT_app]; simp [Pp.manyW]
theorem manyT_le {α : Type} (f : α → List Pp.Wd) (l : List α) (k : Nat) : (Pp.wordsT (Pp.manyW f (l.take k))).length ≤ (Pp.wordsT (Pp.manyW f l)).length := by
  have h := Pp.wordsT_app (Pp.manyW f (l.take k)) (Pp.manyW f (l.drop k))
  rw [← many_app, List.take_append_drop] at h
  rw [h, List.length_append]; omega
def insF (x : Pp.XIns) : List Pp.Wd := Pp.insW x.toP
theorem many_map {α β : Type} (f : β → List Pp.Wd) (g : α → β) (l : List α) : Pp.manyW f (l.map g) = Pp.manyW (fun x => f (g x)) l := by
  induction l with
  | nil => rfl
  | cons x r ih => simp only [List.map_cons, Pp.manyW, ih]
theorem body_words (m : Pp.XMth) : Pp.wordsT (Pp.bodyW m.toP) = Pp.sayL [Pp.wLocals] ++ (Pp.sayL [Lx.intL m.locals] ++ (Pp.sayL [Pp.wLB] ++ (Pp.wordsT (Pp.manyW insF m.code) ++ (Pp.wordsT (Pp.manyW Pp.ctcW m.catches) ++ Pp.sayL [Pp.wRB])))) := by
  have e : Pp.manyW Pp.insW (m.code.map Pp.XIns.toP) = Pp.manyW insF m.code := many_map _ _ _
  unfold Pp.bodyW
  simp only [Pp.XMth.toP, Pp.wordsT_app, e]
  rfl
theorem ctc_words (c : Pp.Ctc) : Pp.wordsT (Pp.ctcW c) = Pp.sayL [Pp.wCatch, c.name] ++ (Pp.sayL [Lx.intL c.lo, Lx.intL c.hi, Lx.intL c.pc] ++ Pp.sayL [Pp.wSemi]) := by
  unfold Pp.ctcW
  simp [Pp.wordsT, Pp.sayL, wtx_nm, wtx_sg, wtx_nu]
theorem say_newg (B b c n g : Nat) (ws : List Pp.Bs) (arr : Array Value) (harr : arr = Sh.strsA ws) (hn : n = ws.length) (l : List UInt8) (v : Value) (w : World) (hg : g = w.heap.size) (hw : Sh.Wr B w b l v)
    (hn2 : n ≤ 1000000) (hle : l.length + (Pp.sayL ws).length ≤ 1000000000) :
    Calls Tryd.prog 27 #[.pointer (some ⟨b, 0, none⟩), .slice (some ⟨g, 0, none⟩) n c] (w.alloc (.cells arr 9)) fun e w' => e = .returned (.tuple #[]) ∧ (∃ v', Sh.Wr B w' b (l ++ Pp.sayL ws) v') ∧ Sh.Ke B w w' := by
  subst hg
  exact say_new B b c n ws arr harr hn l v w hw hn2 hle
/-- A row's item, wherever the world has come to. -/
theorem row_at {α : Type} {W : World} {sz : Nat} {P : α → List Value → Prop} {a : Option Addr} {n c : Nat} {l : List α} (h : RowX W sz P (.slice a n c) l) {k : Nat} {x : α} (hx : l[k]? = some x) : ∃ b o, a = some ⟨b, o, none⟩ ∧ ∃ ys, P x ys ∧ ∀ wx, Below W.heap.size W wx → ∀ (j : Nat) (u : Value), ys[j]? = some u → wx.cell? ⟨b, o + k * sz + j, none⟩ = some u := by
  obtain ⟨a', c', e, hc, h⟩ := h
  injection e with e1 e2 e3
  subst e1
  rcases h with rfl | ⟨b, o, rfl, hlt, hr⟩
  · simp at hx
  · obtain ⟨ys, h1, h2⟩ := hr k x hx
    exact ⟨b, o, rfl, ys, h1, fun wx hb j u hj => (hb.cell (by exact hlt)).trans (h2 j u hj)⟩
end Sh

set_option maxRecDepth 100000 in
set_option maxHeartbeats 8000000 in
theorem wbody_any (W : World) (b : Nat) (m : Pp.XMth) (ys : List Value) (hm : MthX W m ys) (hok : Pp.bodyB m = true) (hab : m.abst = false) (l : List UInt8) (v : Value) (w : World) (hw : Sh.Wr W.heap.size w b l v) (ht : Sh.Tabs W.heap.size w) (hbw : Below W.heap.size W w) (hle : l.length + (Pp.wordsT (Pp.bodyW m.toP)).length ≤ 1000000000) :
    Calls Tryd.prog 47 #[.pointer (some ⟨b, 0, none⟩), .agg ys.toArray] w fun e w' => e = .returned (.tuple #[]) ∧ (∃ v', Sh.Wr W.heap.size w' b (l ++ Pp.wordsT (Pp.bodyW m.toP)) v') ∧ Sh.Ke W.heap.size w w' := by
  obtain ⟨vp, vc, vk, rfl, x1, x2, x3, x4⟩ := hm
  rw [Sh.body_words] at hle ⊢
  unfold Pp.bodyB at hok
  rw [if_neg (by rw [hab]; exact Bool.false_ne_true)] at hok
  simp only [Bool.and_eq_true, Pp.withinB_iff, Pp.eachB_iff] at hok
  obtain ⟨⟨k1, k2⟩, ⟨k3, k4⟩, k5, k6⟩ := hok
  obtain ⟨n, st, ab, ps, rt, lo, co, ca⟩ := m
  simp only at x1 x2 x3 x4 k1 k2 k3 k4 k5 k6 hle hab ⊢
  subst hab
  obtain ⟨pa, pc, rfl, _⟩ := x1.len
  obtain ⟨cq, cc, rfl, _⟩ := x2.len
  obtain ⟨kq, kc, rfl, _⟩ := x3.len
  clear x1 x4
  simp only [mthXL, List.toArray]
  simp only [List.length_append] at hle
  have HLE := hide hle
  have HX2 := hide x2
  have HX3 := hide x3
  have HK4 := hide k4
  have HK6 := hide k6
  obtain ⟨n1, hn1⟩ : ∃ n1, n1 = co.length := ⟨_, rfl⟩
  obtain ⟨n2, hn2⟩ : ∃ n2, n2 = ca.length := ⟨_, rfl⟩
  have HN1 := hide hn1
  have HN2 := hide hn2
  rw [← hn1] at k3 HX2 ⊢
  rw [← hn2] at k5 HX3 ⊢
  clear hn1 hn2 hle x2 x3 k4 k6
  generalize ps.length = n3 at *
  generalize (⟨n.toArray⟩ : ByteArray) = S0 at *
  generalize (⟨rt.name.toArray⟩ : ByteArray) = S1 at *
  generalize rt.kind = rk at *
  obtain ⟨MC, hMC⟩ : ∃ MC : Array Value, MC = #[.string S0, .bool st, .bool false, .slice pa n3 pc, .int .i64 rk, .string S1, .int .i64 lo, .slice cq n1 cc, .slice kq n2 kc] := ⟨_, rfl⟩
  have hwz := hw.alloc (.cells MC 42)
  have hkz := Sh.Ke.alloc hw.2.1 (.cells MC 42)
  have hz : ∀ wx, Sh.Ke W.heap.size (w.alloc (.cells MC 42)) wx → wx.cell? ⟨w.heap.size, 6, none⟩ = some (.int .i64 lo) ∧ wx.cell? ⟨w.heap.size, 7, none⟩ = some (.slice cq n1 cc) ∧ wx.cell? ⟨w.heap.size, 8, none⟩ = some (.slice kq n2 kc) := fun wx hx => by
    have h := fun j => hx.cell (heap_alloc_new w _) (by decide) (by decide) j
    rw [hMC] at h
    exact ⟨h 6, h 7, h 8⟩
  have hbz : Below W.heap.size W (w.alloc (.cells MC 42)) := hbw.trans hkz.bel
  have HZ := hide hz
  have HWZ := hide hwz
  have HKZ := hide hkz
  have HBZ := hide hbz
  have HTZ := hide (ht.on hkz.bel)
  have hs1 := hide (Sh.say_newg W.heap.size b 1 1 (w.heap.size + 1) [Pp.wLocals] #[.string ⟨#[108, 111, 99, 97, 108, 115]⟩] rfl rfl l v _ (by simp) hwz (by omega) (by have := HLE.out; omega))
  clear hz hwz hkz hw ht hbz hbw
  rw [hMC] at HZ HWZ HKZ HBZ HTZ hs1
  clear hMC MC
  go_enter Tryd.func47, Tryd.ntmps47
  go_wp2_with fail
  refine hs1.out.mono ?_
  rintro e w1 ⟨rfl, ⟨v1, h11⟩, h12⟩
  generalize w.alloc _ = wz at *
  have HW1 := hide h11
  have HK1 := hide h12
  have q6 := (HZ.out w1 h12).1
  have HS := hide (number_new W.heap.size b 1 1 [lo] #[.int .i64 lo] rfl rfl _ v1 w1 h11 (HTZ.out.on h12.bel) (by intro x hx; simp at hx; subst hx; omega) (by omega) (by have := HLE.out; simp only [List.length_append, List.map_cons, List.map_nil]; omega))
  clear h11 h12 hs1 HWZ
  go_wp2_with fail
  refine HS.out.mono ?_
  rintro e w2 ⟨rfl, ⟨v2, h1⟩, h2⟩
  have HK2 := hide (HK1.out.trans h2)
  have HS2 := hide (say_new W.heap.size b 1 1 [Pp.wLB] #[.string ⟨#[123]⟩] rfl rfl _ v2 w2 h1 (by omega) (by have := HLE.out; simp only [List.length_append, List.map_cons, List.map_nil]; omega))
  clear h1 h2 HS HK1 HW1 q6
  go_wp2_with fail
  refine HS2.out.mono ?_
  rintro e w3 ⟨rfl, ⟨v3, h1⟩, h2⟩
  have HK3 := hide (HK2.out.trans h2)
  have q7 := (HZ.out w3 HK3.out).2.1
  simp only [List.map_cons, List.map_nil] at h1
  obtain ⟨l3, hl3⟩ : ∃ l3, l3 = l ++ Pp.sayL [Pp.wLocals] ++ Pp.sayL [Lx.intL lo] ++ Pp.sayL [Pp.wLB] := ⟨_, rfl⟩
  rw [← hl3] at h1
  have HL3 := hide hl3
  have HLE3 : Hid (l3.length + (Pp.wordsT (Pp.manyW Sh.insF co)).length + (Pp.wordsT (Pp.manyW Pp.ctcW ca)).length + (Pp.sayL [Pp.wRB]).length ≤ 1000000000) := hide (by
    have := HLE.out
    rw [hl3]
    simp only [List.length_append]
    omega)
  have HW3 := hide h1
  clear h1 h2 HS2 HK2 hl3 HLE
  go_wp2_with fail
  clear q7
  go_loopw [22] (fun i wr => ∃ (k : Nat) (v : Value), k ≤ n1 ∧ i = .int .i64 k ∧ Sh.Wr W.heap.size wr b (l3 ++ Pp.wordsT (Pp.manyW Sh.insF (co.take k))) v ∧ Sh.Ke W.heap.size wz wr) (fun i _ => n1 - (intOf i).toNat)
  case atStart => exact ⟨0, v3, Nat.zero_le _, rfl, by simpa [Pp.manyW, Pp.wordsT, Pp.sayL] using HW3.out, HK3.out⟩
  case round =>
    obtain ⟨k, v0, hk, rfl, hwr, hke⟩ := hrel
    by_cases hlt : k < n1
    · obtain ⟨x, hx⟩ : ∃ x, co[k]? = some x := ⟨co[k]'(by rw [← HN1.out]; exact hlt), List.getElem?_eq_getElem _⟩
      obtain ⟨g, o, rfl, ys, hy, hcell⟩ := Sh.row_at HX2.out hx
      obtain rfl : ys = _ := hy.1
      have hbr := HBZ.out.trans hke.bel
      have r0 := hcell wr hbr 0 _ rfl
      have r1 := hcell wr hbr 1 _ rfl
      have r2 := hcell wr hbr 2 _ rfl
      have r3 := hcell wr hbr 3 _ rfl
      rw [Nat.add_zero] at r0
      have hS := Sh.manyT_take Sh.insF hx
      have hS2 := Sh.manyT_le Sh.insF co (k + 1)
      have HA : Hid (l3 ++ Pp.wordsT (Pp.manyW Sh.insF (co.take (k + 1))) = (l3 ++ Pp.wordsT (Pp.manyW Sh.insF (co.take k))) ++ Pp.wordsT (Sh.insF x)) := hide (by rw [hS]; simp only [List.append_assoc])
      rw [hS] at hS2
      have hle2 : (l3 ++ Pp.wordsT (Pp.manyW Sh.insF (co.take k))).length + (Pp.wordsT (Sh.insF x)).length ≤ 1000000000 := by
        have := HLE3.out
        simp only [List.length_append] at hS2 ⊢
        omega
      have HI := hide (fun o => winstr_any W.heap.size b x (HK4.out x (List.mem_of_getElem? hx)) _ v0 (wr.alloc o) (hwr.alloc o) (HTZ.out.on (hke.trans (Sh.Ke.alloc hwr.2.1 o)).bel) hle2)
      have HKA := hide (fun o => hke.trans (Sh.Ke.alloc hwr.2.1 o))
      generalize l3 ++ Pp.wordsT (Pp.manyW Sh.insF (co.take k)) = acc at *
      change Hid (∀ o, Calls _ _ _ _ fun e w' => _ ∧ (∃ v', Sh.Wr W.heap.size w' b (acc ++ Pp.wordsT (Sh.insF x)) v') ∧ _) at HI
      rw [← HA.out] at HI
      clear hcell hy hx hS hS2 hle2 hbr hwr hke HA HX2 HK4
      generalize x.op = y0 at *
      generalize x.n = y1 at *
      generalize (⟨x.a.toArray⟩ : ByteArray) = y2 at *
      generalize (⟨x.b.toArray⟩ : ByteArray) = y3 at *
      have hlt' : (k : Int) < (n1 : Int) := by omega
      go_wp2_with fail
      refine (HI.out _).mono ?_
      rintro e w4 ⟨rfl, ⟨v4, h41⟩, h42⟩
      have HW4 := hide h41
      have HK4' := hide ((HKA.out _).trans h42)
      clear h41 h42 HI HKA r0 r1 r2 r3
      go_wp2_with fail
      go_roundw
      case rel => exact ⟨k + 1, v4, by omega, by go_num, HW4.out, HK4'.out⟩
      case measure => simp [intOf]; omega
    · rw [List.take_of_length_le (by rw [← HN1.out]; omega)] at hwr
      have HW4 := hide hwr
      have HK4' := hide hke
      have q8 := (HZ.out wr hke).2.2
      clear hwr hke HW3 HK3 HX2 HK4 HN1
      obtain ⟨wo, rfl⟩ : ∃ wo : World, wo = wr := ⟨_, rfl⟩
      go_wp2_with fail
      clear hk hlt
      obtain ⟨l4, hl4⟩ : ∃ l4, l4 = l3 ++ Pp.wordsT (Pp.manyW Sh.insF co) := ⟨_, rfl⟩
      have HL4 := hide hl4
      rw [← hl4] at HW4
      have HLE4 : Hid (l4.length + (Pp.wordsT (Pp.manyW Pp.ctcW ca)).length + (Pp.sayL [Pp.wRB]).length ≤ 1000000000) := hide (by
        have := HLE3.out
        rw [hl4, List.length_append]
        omega)
      clear hl4 HLE3 q8
      go_loopw [33] (fun i wr => ∃ (k : Nat) (v : Value), k ≤ n2 ∧ i = .int .i64 k ∧ Sh.Wr W.heap.size wr b (l4 ++ Pp.wordsT (Pp.manyW Pp.ctcW (ca.take k))) v ∧ Sh.Ke W.heap.size wz wr) (fun i _ => n2 - (intOf i).toNat)
      case atStart => exact ⟨0, v0, Nat.zero_le _, rfl, by simpa [Pp.manyW, Pp.wordsT, Pp.sayL] using HW4.out, HK4'.out⟩
      case round =>
        clear HW4 HK4'
        obtain ⟨kk, vv, hk, rfl, hwr, hke⟩ := hrel
        by_cases hlt : kk < n2
        · obtain ⟨x, hx⟩ : ∃ x, ca[kk]? = some x := ⟨ca[kk]'(by rw [← HN2.out]; exact hlt), List.getElem?_eq_getElem _⟩
          obtain ⟨g, o, rfl, ys, hy, hcell⟩ := Sh.row_at HX3.out hx
          obtain rfl : ys = _ := hy.1
          have hbr := HBZ.out.trans hke.bel
          have r0 := hcell wr hbr 0 _ rfl
          have r1 := hcell wr hbr 1 _ rfl
          have r2 := hcell wr hbr 2 _ rfl
          have r3 := hcell wr hbr 3 _ rfl
          rw [Nat.add_zero] at r0
          have hS := Sh.manyT_take Pp.ctcW hx
          have hS2 := Sh.manyT_le Pp.ctcW ca (kk + 1)
          rw [Sh.ctc_words] at hS
          have HA : Hid (l4 ++ Pp.wordsT (Pp.manyW Pp.ctcW (ca.take (kk + 1))) = (l4 ++ Pp.wordsT (Pp.manyW Pp.ctcW (ca.take kk))) ++ (Pp.sayL [Pp.wCatch, x.name] ++ (Pp.sayL [Lx.intL x.lo, Lx.intL x.hi, Lx.intL x.pc] ++ Pp.sayL [Pp.wSemi]))) := hide (by rw [hS]; simp only [List.append_assoc])
          rw [hS] at hS2
          have HLx : Hid ((l4 ++ Pp.wordsT (Pp.manyW Pp.ctcW (ca.take kk))).length + (Pp.sayL [Pp.wCatch, x.name]).length + (Pp.sayL [Lx.intL x.lo, Lx.intL x.hi, Lx.intL x.pc]).length + (Pp.sayL [Pp.wSemi]).length ≤ 1000000000) := hide (by
            have := HLE4.out
            simp only [List.length_append] at hS2 ⊢
            omega)
          have hco : Pp.okCtc x := (Pp.ctcB_iff x).1 (HK6.out x (List.mem_of_getElem? hx))
          have HR : Hid (∀ m ∈ [x.lo, x.hi, x.pc], -2147483648 ≤ m ∧ m ≤ 2147483647) := hide (by
            obtain ⟨_, z1, z2, z3⟩ := hco
            intro m hm
            simp at hm
            rcases hm with rfl | rfl | rfl <;> omega)
          generalize l4 ++ Pp.wordsT (Pp.manyW Pp.ctcW (ca.take kk)) = acc at *
          have hwz2 := hwr.alloc (.cells #[.string ⟨x.name.toArray⟩, .int .i64 x.lo, .int .i64 x.hi, .int .i64 x.pc] 53)
          have hkz2 := hke.trans (Sh.Ke.alloc hwr.2.1 (.cells #[.string ⟨x.name.toArray⟩, .int .i64 x.lo, .int .i64 x.hi, .int .i64 x.pc] 53))
          have hz2 : ∀ wx, Sh.Ke W.heap.size (wr.alloc (.cells #[.string ⟨x.name.toArray⟩, .int .i64 x.lo, .int .i64 x.hi, .int .i64 x.pc] 53)) wx → ∀ j, wx.cell? ⟨wr.heap.size, j, none⟩ = #[Value.string ⟨x.name.toArray⟩, .int .i64 x.lo, .int .i64 x.hi, .int .i64 x.pc][j]? := fun wx hx j => hx.cell (heap_alloc_new wr _) (by decide) (by decide) j
          have HS := hide (Sh.say_newg W.heap.size b 2 2 (wr.heap.size + 1) [Pp.wCatch, x.name] #[.string ⟨#[99, 97, 116, 99, 104]⟩, .string ⟨x.name.toArray⟩] rfl rfl _ vv _ (by simp) hwz2 (by omega) (by have := HLx.out; omega))
          have HZ2 := hide hz2
          have HKz2 := hide hkz2
          have HTz2 := hide (HTZ.out.on hkz2.bel)
          clear hcell hy hx hS hS2 hbr hwr hke HX3 HK6 hco hwz2 hkz2 hz2
          have hlt' : (kk : Int) < (n2 : Int) := by omega
          go_wp2_with fail
          refine HS.out.mono ?_
          rintro e w4 ⟨rfl, ⟨v4, h41⟩, h42⟩
          have d1 : w4.cell? ⟨wr.heap.size, 1, none⟩ = some (.int .i64 x.lo) := HZ2.out w4 h42 1
          have d2 : w4.cell? ⟨wr.heap.size, 2, none⟩ = some (.int .i64 x.hi) := HZ2.out w4 h42 2
          have d3 : w4.cell? ⟨wr.heap.size, 3, none⟩ = some (.int .i64 x.pc) := HZ2.out w4 h42 3
          have HS2 := hide (number_new W.heap.size b 3 3 [x.lo, x.hi, x.pc] #[.int .i64 x.lo, .int .i64 x.hi, .int .i64 x.pc] rfl rfl _ v4 w4 h41 (HTz2.out.on h42.bel) HR.out (by omega) (by have := HLx.out; simp only [List.length_append, List.map_cons, List.map_nil]; omega))
          have HK4x := hide (HKz2.out.trans h42)
          clear h41 h42 HS HKz2 r0 r1 r2 r3 HZ2
          go_wp2_with fail
          refine HS2.out.mono ?_
          rintro e w5 ⟨rfl, ⟨v5, h51⟩, h52⟩
          simp only [List.map_cons, List.map_nil] at h51
          have HS3 := hide (say_new W.heap.size b 1 1 [Pp.wSemi] #[.string ⟨#[59]⟩] rfl rfl _ v5 w5 h51 (by omega) (by have := HLx.out; simp only [List.length_append]; omega))
          have HK5x := hide (HK4x.out.trans h52)
          clear h51 h52 HS2 HK4x d1 d2 d3
          go_wp2_with fail
          refine HS3.out.mono ?_
          rintro e w6 ⟨rfl, ⟨v6, h61⟩, h62⟩
          rw [List.append_assoc, List.append_assoc, ← HA.out] at h61
          have HW6 := hide h61
          have HK6x := hide (HK5x.out.trans h62)
          clear h61 h62 HS3 HK5x HA HLx HR
          go_wp2_with fail
          go_roundw
          case rel => exact ⟨kk + 1, v6, by omega, by go_num, HW6.out, HK6x.out⟩
          case measure => simp [intOf]; omega
        · rw [List.take_of_length_le (by rw [← HN2.out]; omega)] at hwr
          have HS := hide (say_new W.heap.size b 1 1 [Pp.wRB] #[.string ⟨#[125]⟩] rfl rfl _ vv wr hwr (by omega) (by have := HLE4.out; rw [List.length_append]; omega))
          have HKe := hide hke
          clear hwr hke
          go_wp2_with fail
          refine HS.out.mono ?_
          rintro e w6 ⟨rfl, ⟨v6, h61⟩, h62⟩
          have HW6 := hide h61
          have HK6' := hide (HKZ.out.trans (HKe.out.trans h62))
          clear h61 h62 HS HKe
          go_wp2_with fail
          refine bodyPost_end (v := .tuple #[]) (by simp [results, Tryd.results47, go_sem]) rfl ⟨rfl, ⟨v6, ?_⟩, HK6'.out⟩
          have hh := HW6.out
          rw [HL4.out, HL3.out] at hh
          simpa only [List.append_assoc] using hh

end Go.Proofs.YtdgfidaopkcjoabDoor

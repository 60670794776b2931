/- What show's writer says of a method. -/
import Derived.Test.YtdgfidaopkcjoabDoorShowO
namespace Go.Proofs.YtdgfidaopkcjoabDoor
open Go.RowKit
set_option linter.unusedVariables false
set_option linter.unusedSimpArgs false

namespace Sh
theorem more_app {α : Type} (f : α → List Pp.Wd) (l : List α) (x : α) : Pp.moreW f (l ++ [x]) = Pp.moreW f l ++ (Pp.sg Pp.wComma :: f x) := by
  induction l with
  | nil => simp [Pp.moreW]
  | cons y r ih => simp only [List.cons_append, Pp.moreW, ih, List.append_assoc]
theorem comma_app {α : Type} (f : α → List Pp.Wd) (l : List α) (x : α) : Pp.commaW f (l ++ [x]) = Pp.commaW f l ++ ((if l = [] then [] else [Pp.sg Pp.wComma]) ++ f x) := by
  cases l with
  | nil => simp [Pp.commaW, Pp.moreW]
  | cons y r => simp [Pp.commaW, more_app]
theorem commaT_take {α : Type} (f : α → List Pp.Wd) {l : List α} {k : Nat} {x : α} (h : l[k]? = some x) : Pp.wordsT (Pp.commaW f (l.take (k + 1))) = Pp.wordsT (Pp.commaW f (l.take k)) ++ ((if k = 0 then [] else Pp.sayL [[44]]) ++ Pp.wordsT (f x)) := by
  have hk : k < l.length := by
    rcases Nat.lt_or_ge k l.length with h1 | h1
    · exact h1
    · rw [List.getElem?_eq_none h1] at h; cases h
  rw [List.take_add_one, h]
  show Pp.wordsT (Pp.commaW f (l.take k ++ [x])) = _
  rw [comma_app, Pp.wordsT_app, Pp.wordsT_app]
  by_cases h0 : k = 0
  · subst h0; simp [Pp.wordsT, Pp.sayL]
  · have hne : ¬ l.take k = [] := by
      intro e
      have := congrArg List.length e
      rw [List.length_take, Nat.min_eq_left (by omega)] at this
      simp at this
      omega
    rw [if_neg h0, if_neg hne]
    rfl
theorem comma_le {α : Type} (f : α → List Pp.Wd) : ∀ (l m : List α), ∃ r, Pp.commaW f (l ++ m) = Pp.commaW f l ++ r
  | l, [] => ⟨[], by simp⟩
  | l, x :: m => by
    obtain ⟨r, hr⟩ := comma_le f (l ++ [x]) m
    refine ⟨((if l = [] then [] else [Pp.sg Pp.wComma]) ++ f x) ++ r, ?_⟩
    have e : l ++ x :: m = (l ++ [x]) ++ m := by simp
    rw [e, hr, comma_app, List.append_assoc]
theorem commaT_le {α : Type} (f : α → List Pp.Wd) (l : List α) (k : Nat) : (Pp.wordsT (Pp.commaW f (l.take k))).length ≤ (Pp.wordsT (Pp.commaW f l)).length := by
  obtain ⟨r, hr⟩ := comma_le f (l.take k) (l.drop k)
  rw [List.take_append_drop] at hr
  rw [hr, Pp.wordsT_app, List.length_append]; omega
def mthF (m : Pp.XMth) : List Pp.Wd := Pp.mthW m.toP
theorem mth_words (m : Pp.XMth) : Pp.wordsT (mthF m) = Pp.sayL [if m.stat = true then Pp.wFunction else Pp.wMethod, m.name, Pp.wLP] ++ (Pp.wordsT (Pp.commaW Pp.tyW m.params) ++ (Pp.sayL [Pp.wRP] ++ (Pp.sayL (tyS m.ret) ++ (if m.abst = true then Pp.sayL [Pp.wSemi] else Pp.wordsT (Pp.bodyW m.toP))))) := by
  obtain ⟨n, st, ab, ps, rt, lo, co, ca⟩ := m
  unfold mthF Pp.mthW
  simp only [Pp.XMth.toP, Pp.wordsT_app]
  cases ab with
  | true => simp [Pp.wordsT, Pp.sayL, wtx_nm, wtx_sg, tyS]; rfl
  | false => simp [Pp.wordsT, Pp.sayL, wtx_nm, wtx_sg, tyS]; rfl
end Sh

set_option maxRecDepth 100000 in
set_option maxHeartbeats 8000000 in
theorem wmethod_any (W : World) (b : Nat) (m : Pp.XMth) (ys : List Value) (hm : MthX W m ys) (hok : Pp.mthB m = true) (l : List UInt8) (v : Value) (w : World) (hw : Sh.Wr W.heap.size w b l v) (ht : Sh.Tabs W.heap.size w) (hbw : Below W.heap.size W w) (hle : l.length + (Pp.wordsT (Sh.mthF m)).length ≤ 1000000000) :
    Calls Tryd.prog 31 #[.pointer (some ⟨b, 0, none⟩), .agg ys.toArray] w fun e w' => e = .returned (.tuple #[]) ∧ (∃ v', Sh.Wr W.heap.size w' b (l ++ Pp.wordsT (Sh.mthF m)) v') ∧ Sh.Ke W.heap.size w w' := by
  have hBd := hide (fun (hab : m.abst = false) (hbo : Pp.bodyB m = true) (l : List UInt8) v w hw ht hbw hle => wbody_any W b m ys hm hbo hab l v w hw ht hbw hle)
  obtain ⟨vp, vc, vk, rfl, x1, x2, x3, x4⟩ := hm
  rw [Sh.mth_words] at hle ⊢
  unfold Pp.mthB at hok
  simp only [Bool.and_eq_true, Pp.eachB_iff, Pp.typeB_iff] at hok
  obtain ⟨k1, ⟨k2, k3⟩, k4, k5⟩ := hok
  have HB5 := hide k5
  generalize hBW : Pp.wordsT (Pp.bodyW m.toP) = BW at *
  clear hBW k1 k5
  obtain ⟨n, st, ab, ps, rt, lo, co, ca⟩ := m
  simp only at x1 x2 x3 x4 k2 k3 k4 hle hBd ⊢
  have hT := hide (fun w => typeWords_any rt k4 w)
  have hTl := tyS_len rt
  obtain ⟨pa, pc, rfl, _⟩ := x1.len
  obtain ⟨cq, cc, rfl, _⟩ := x2.len
  obtain ⟨kq, kc, rfl, _⟩ := x3.len
  clear x2 x3 x4
  obtain ⟨S0, hS0⟩ : ∃ S0 : ByteArray, S0 = ⟨n.toArray⟩ := ⟨_, rfl⟩
  have HS0 := hide hS0
  simp only [mthXL] at hBd ⊢
  rw [← hS0] at hBd ⊢
  simp only [List.toArray] at hBd ⊢
  clear hS0
  simp only [List.length_append] at hle
  have HLE := hide hle
  have HX1 := hide x1
  have HK3 := hide k3
  obtain ⟨n3, hn3⟩ : ∃ n3, n3 = ps.length := ⟨_, rfl⟩
  have HN3 := hide hn3
  rw [← hn3] at k2 HX1 hBd ⊢
  clear hn3 hle x1 k3 k4
  generalize co.length = n1 at *
  generalize ca.length = n2 at *
  generalize Sh.tyS rt = ts at *
  obtain ⟨l1, hl1⟩ : ∃ l1, l1 = Pp.sayL [if st = true then Pp.wFunction else Pp.wMethod, n, Pp.wLP] := ⟨_, rfl⟩
  rw [← hl1] at HLE ⊢
  have HL1 := hide hl1
  clear hl1
  generalize (⟨rt.name.toArray⟩ : ByteArray) = S1 at *
  generalize rt.kind = rk at *
  have hE := hide (fun w => either_any st ⟨Pp.wFunction.toArray⟩ ⟨Pp.wMethod.toArray⟩ w)
  obtain ⟨MC, hMC⟩ : ∃ MC : Array Value, MC = #[.string S0, .bool st, .bool ab, .slice pa n3 pc, .int .i64 rk, .string S1, .int .i64 lo, .slice cq n1 cc, .slice kq n2 kc] := ⟨_, rfl⟩
  have hwz := hw.alloc (.cells MC 42)
  have hkz := Sh.Ke.alloc hw.2.1 (.cells MC 42)
  have hz : ∀ wx, Sh.Ke W.heap.size (w.alloc (.cells MC 42)) wx → ∀ j, wx.cell? ⟨w.heap.size, j, none⟩ = MC[j]? := fun wx hx j => hx.cell (heap_alloc_new w _) (by decide) (by decide) j
  have hbz : Below W.heap.size W (w.alloc (.cells MC 42)) := hbw.trans hkz.bel
  have HZ := hide hz
  have HWZ := hide hwz
  have HKZ := hide hkz
  have HBZ := hide hbz
  have HTZ := hide (ht.on hkz.bel)
  clear hz hwz hkz hw ht hbz hbw
  rw [hMC] at HZ HWZ HKZ HBZ HTZ
  clear hMC MC
  go_enter Tryd.func31, Tryd.ntmps31
  go_wp2_with fail
  generalize w.alloc _ = wz at *
  have hK : Hid (∀ wx, Sh.Ke W.heap.size wz wx → wx.cell? ⟨w.heap.size, 0, none⟩ = some (.string S0) ∧ wx.cell? ⟨w.heap.size, 1, none⟩ = some (.bool st)) := hide fun wx hx => ⟨HZ.out wx hx 0, HZ.out wx hx 1⟩
  have hD : Hid (Sh.Ke W.heap.size wz wz.drew) := hide (Sh.Ke.drew _ _)
  have hA : Hid (∀ o, Sh.Ke W.heap.size wz (wz.alloc o).drew) := hide fun o => (Sh.Ke.alloc HWZ.out.2.1 o).trans (Sh.Ke.drew _ _)
  have HS : Hid (Calls Tryd.prog 27 #[.pointer (some ⟨b, 0, none⟩), .slice (some ⟨wz.heap.size, 0, none⟩) 3 3] (wz.alloc (.cells #[.string (if st = true then ⟨Pp.wFunction.toArray⟩ else ⟨Pp.wMethod.toArray⟩), .string S0, .string ⟨#[40]⟩] 9)).drew fun e w' => e = .returned (.tuple #[]) ∧ (∃ v', Sh.Wr W.heap.size w' b (l ++ l1) v') ∧ Sh.Ke W.heap.size (wz.alloc (.cells #[.string (if st = true then ⟨Pp.wFunction.toArray⟩ else ⟨Pp.wMethod.toArray⟩), .string S0, .string ⟨#[40]⟩] 9)).drew w') :=
    hide (by rw [HL1.out] at HLE ⊢; exact say_blk W.heap.size b wz.heap.size 3 3 _ _ (by rw [HS0.out]; cases st <;> rfl) rfl l v _ ((HWZ.out.alloc _).drew) (heap_alloc_new wz _) (by omega) (by have := HLE.out; omega))
  generalize hkw : (if st = true then (⟨Pp.wFunction.toArray⟩ : ByteArray) else ⟨Pp.wMethod.toArray⟩) = KW at *
  clear hkw HL1
  go_region_held (fun wx => wx.cell? ⟨w.heap.size, 0, none⟩ = some (.string S0) ∧ wx.cell? ⟨w.heap.size, 1, none⟩ = some (.bool st)) (first | exact hK.out _ HK6.out | exact hK.out _ hD.out | exact hK.out _ (hA.out _))
    (first | (go_at_call 28; refine (hE.out _).mono ?_; rintro e w5 ⟨rfl, hw5⟩; subst hw5) | (go_at_call 27; refine HS.out.mono ?_; rintro e w6 ⟨rfl, h61, h62⟩; have HK6 : Hid (Sh.Ke W.heap.size wz w6) := hide ((hA.out _).trans h62); have HW6 := hide h61; clear h61 h62))
  obtain ⟨v6, hW6⟩ := HW6.out
  have HW6' := hide hW6
  have q3 : w6.cell? ⟨w.heap.size, 3, none⟩ = some (.slice pa n3 pc) := HZ.out w6 HK6.out 3
  clear hW6 HW6 hK hD hA HS hE HWZ
  go_wp2_with fail
  clear q3
  go_loopw [17] (fun i wr => ∃ (k : Nat) (v : Value), k ≤ n3 ∧ i = .int .i64 k ∧ Sh.Wr W.heap.size wr b ((l ++ l1) ++ Pp.wordsT (Pp.commaW Pp.tyW (ps.take k))) v ∧ Sh.Ke W.heap.size wz wr) (fun i _ => n3 - (intOf i).toNat)
  case atStart => exact ⟨0, v6, Nat.zero_le _, rfl, by simpa [Pp.commaW, Pp.wordsT, Pp.sayL] using HW6'.out, HK6.out⟩
  case round =>
    clear HW6' HK6
    obtain ⟨k, v0, hk, rfl, hwr, hke⟩ := hrel
    by_cases hlt : k < n3
    · obtain ⟨x, hx⟩ : ∃ x, ps[k]? = some x := ⟨ps[k]'(by rw [← HN3.out]; exact hlt), List.getElem?_eq_getElem _⟩
      obtain ⟨g, o, rfl, ys, hy, hcell⟩ := Sh.row_at HX1.out hx
      obtain rfl : ys = _ := hy.1
      have hbr := HBZ.out.trans hke.bel
      have r0 := hcell wr hbr 0 _ rfl
      have r1 := hcell wr hbr 1 _ rfl
      rw [Nat.add_zero] at r0
      have hS := Sh.commaT_take Pp.tyW hx
      have hS2 := Sh.commaT_le Pp.tyW ps (k + 1)
      have HA : Hid ((l ++ l1) ++ Pp.wordsT (Pp.commaW Pp.tyW (ps.take (k + 1))) = ((l ++ l1) ++ Pp.wordsT (Pp.commaW Pp.tyW (ps.take k))) ++ ((if k = 0 then [] else Pp.sayL [[44]]) ++ Pp.sayL (Sh.tyS x))) := hide (by rw [hS]; simp only [List.append_assoc]; rfl)
      rw [hS] at hS2
      have hTx := hide (fun w => typeWords_any x (HK3.out x (List.mem_of_getElem? hx)) w)
      have hTxl := tyS_len x
      have HLx : Hid (((l ++ l1) ++ Pp.wordsT (Pp.commaW Pp.tyW (ps.take k))).length + (if k = 0 then [] else Pp.sayL [[44]]).length + (Pp.sayL (Sh.tyS x)).length + 2 ≤ 1000000000) := hide (by
        have h1 := HLE.out
        have h2 : Pp.wordsT (Pp.tyW x) = Pp.sayL (Sh.tyS x) := rfl
        rw [h2] at hS2
        have h3 : (Pp.sayL [Pp.wRP]).length = 2 := rfl
        simp only [List.length_append] at hS2 ⊢
        omega)
      generalize (l ++ l1) ++ Pp.wordsT (Pp.commaW Pp.tyW (ps.take k)) = acc at *
      have hwz2 := hwr.alloc (.cells #[.int .i64 x.kind, .string ⟨x.name.toArray⟩] 35)
      have hkz2 := hke.trans (Sh.Ke.alloc hwr.2.1 (.cells #[.int .i64 x.kind, .string ⟨x.name.toArray⟩] 35))
      have hz2 : ∀ wx, Sh.Ke W.heap.size (wr.alloc (.cells #[.int .i64 x.kind, .string ⟨x.name.toArray⟩] 35)) wx → ∀ j, wx.cell? ⟨wr.heap.size, j, none⟩ = #[Value.int .i64 x.kind, .string ⟨x.name.toArray⟩][j]? := fun wx hx j => hx.cell (heap_alloc_new wr _) (by decide) (by decide) j
      have HS := hide (comma_any W.heap.size b k acc v0 _ hwz2 (by omega) (by have := HLx.out; omega))
      have HZ2 := hide hz2
      have HKz2 := hide hkz2
      clear hcell hy hx hS hS2 hbr hwr hke HX1 HK3 hwz2 hkz2 hz2
      have hlt' : (k : Int) < (n3 : Int) := by omega
      generalize Sh.tyS x = tx at *
      go_wp2_with fail
      refine HS.out.mono ?_
      rintro e w4 ⟨rfl, ⟨v4, h41⟩, h42⟩
      have d0 : w4.cell? ⟨wr.heap.size, 0, none⟩ = some (.int .i64 x.kind) := HZ2.out w4 h42 0
      have d1 : w4.cell? ⟨wr.heap.size, 1, none⟩ = some (.string ⟨x.name.toArray⟩) := HZ2.out w4 h42 1
      have HW4 := hide h41
      have HK4 := hide (HKz2.out.trans h42)
      clear h41 h42 HS HKz2 HZ2 r0 r1
      go_wp2_with fail
      refine (hTx.out _).mono ?_
      rintro e w5 ⟨g5, rfl, hg5, hb5⟩
      have HS5 := hide (say_type W.heap.size b g5 tx _ v4 w5 (HW4.out.below hb5) hg5 hTxl (by have := HLx.out; rw [List.length_append]; omega))
      have HK5 := hide (HK4.out.trans (Sh.Ke.below HW4.out.2.1 hb5))
      clear hg5 hb5 HW4 HK4 d0 d1 hTx
      go_wp2_with fail
      refine HS5.out.mono ?_
      rintro e w7 ⟨rfl, ⟨v7, h71⟩, h72⟩
      rw [List.append_assoc, ← HA.out] at h71
      have HW7 := hide h71
      have HK7 := hide (HK5.out.trans h72)
      clear h71 h72 HS5 HK5 HA HLx
      go_wp2_with fail
      go_roundw
      case rel => exact ⟨k + 1, v7, by omega, by go_num, HW7.out, HK7.out⟩
      case measure => simp [intOf]; omega
    · rw [List.take_of_length_le (by rw [← HN3.out]; omega)] at hwr
      have HS := hide (say_new W.heap.size b 1 1 [Pp.wRP] #[.string ⟨#[41]⟩] rfl rfl _ v0 wr hwr (by omega) (by have := HLE.out; simp only [List.length_append]; omega))
      have HKe := hide hke
      clear hwr hke HX1 HK3
      go_wp2_with fail
      refine HS.out.mono ?_
      rintro e w4 ⟨rfl, ⟨v4, h41⟩, h42⟩
      have HW4 := hide h41
      have HK4 := hide (HKe.out.trans h42)
      have d4 : w4.cell? ⟨w.heap.size, 4, none⟩ = some (.int .i64 rk) := HZ.out w4 HK4.out 4
      have d5 : w4.cell? ⟨w.heap.size, 5, none⟩ = some (.string S1) := HZ.out w4 HK4.out 5
      clear h41 h42 HS HKe
      go_wp2_with fail
      refine (hT.out _).mono ?_
      rintro e w5 ⟨g5, rfl, hg5, hb5⟩
      have HS5 := hide (say_type W.heap.size b g5 ts _ v4 w5 (HW4.out.below hb5) hg5 hTl (by have := HLE.out; simp only [List.length_append]; omega))
      have HK5 := hide (HK4.out.trans (Sh.Ke.below HW4.out.2.1 hb5))
      clear hg5 hb5 HW4 HK4 d4 d5 hT
      go_wp2_with fail
      refine HS5.out.mono ?_
      rintro e w7 ⟨rfl, ⟨v7, h71⟩, h72⟩
      have HW7 := hide h71
      have HK7 := hide (HK5.out.trans h72)
      clear h71 h72 HS5 HK5
      have p2 : w7.cell? ⟨w.heap.size, 2, none⟩ = some (.bool ab) := HZ.out w7 HK7.out 2
      cases ab with
      | true =>
        have HS8 := hide (say_new W.heap.size b 1 1 [Pp.wSemi] #[.string ⟨#[59]⟩] rfl rfl _ v7 w7 HW7.out (by omega) (by have := HLE.out; simp only [List.length_append, if_true] at this ⊢; omega))
        go_wp2_with fail
        refine HS8.out.mono ?_
        rintro e w8 ⟨rfl, ⟨v8, h81⟩, h82⟩
        have HW8 := hide h81
        have HK8 := hide (HKZ.out.trans (HK7.out.trans h82))
        clear h81 h82 HS8
        go_wp2_with fail
        refine bodyPost_ret (v := .tuple #[]) (by simp [results, Tryd.results31, go_sem]) rfl ⟨rfl, ⟨v8, ?_⟩, HK8.out⟩
        have hh := HW8.out
        simpa only [List.append_assoc, if_true] using hh
      | false =>
        have HS8 := hide (hBd.out rfl HB5.out _ v7 w7 HW7.out (HTZ.out.on HK7.out.bel) (HBZ.out.trans HK7.out.bel) (by have := HLE.out; simp only [List.length_append, Bool.false_eq_true, if_false] at this ⊢; omega))
        have p0 : w7.cell? ⟨w.heap.size, 0, none⟩ = some (.string S0) := HZ.out w7 HK7.out 0
        have p1 : w7.cell? ⟨w.heap.size, 1, none⟩ = some (.bool st) := HZ.out w7 HK7.out 1
        have p3 : w7.cell? ⟨w.heap.size, 3, none⟩ = some (.slice pa n3 pc) := HZ.out w7 HK7.out 3
        have p4 : w7.cell? ⟨w.heap.size, 4, none⟩ = some (.int .i64 rk) := HZ.out w7 HK7.out 4
        have p5 : w7.cell? ⟨w.heap.size, 5, none⟩ = some (.string S1) := HZ.out w7 HK7.out 5
        have p6 : w7.cell? ⟨w.heap.size, 6, none⟩ = some (.int .i64 lo) := HZ.out w7 HK7.out 6
        have p7 : w7.cell? ⟨w.heap.size, 7, none⟩ = some (.slice cq n1 cc) := HZ.out w7 HK7.out 7
        have p8 : w7.cell? ⟨w.heap.size, 8, none⟩ = some (.slice kq n2 kc) := HZ.out w7 HK7.out 8
        go_wp2_with fail
        refine HS8.out.mono ?_
        rintro e w8 ⟨rfl, ⟨v8, h81⟩, h82⟩
        have HW8 := hide h81
        have HK8 := hide (HKZ.out.trans (HK7.out.trans h82))
        clear h81 h82 HS8 p0 p1 p2 p3 p4 p5 p6 p7 p8
        go_wp2_with fail
        refine bodyPost_end (v := .tuple #[]) (by simp [results, Tryd.results31, go_sem]) rfl ⟨rfl, ⟨v8, ?_⟩, HK8.out⟩
        have hh := HW8.out
        simpa only [List.append_assoc, Bool.false_eq_true, if_false] using hh

end Go.Proofs.YtdgfidaopkcjoabDoor

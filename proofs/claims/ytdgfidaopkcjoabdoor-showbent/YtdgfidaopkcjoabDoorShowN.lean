/- What show's writer says of an instruction. -/
import Derived.Test.YtdgfidaopkcjoabDoorShowM
namespace Go.Proofs.YtdgfidaopkcjoabDoor
open Go.RowKit
set_option linter.unusedVariables false
set_option linter.unusedSimpArgs false

namespace Sh
theorem wtx_nm (s : Pp.Bs) : Pp.wtx (Pp.nm s) = s := rfl
theorem wtx_sg (s : Pp.Bs) : Pp.wtx (Pp.sg s) = s := rfl
theorem wtx_nu (n : Int) : Pp.wtx (Pp.nu n) = Lx.intL n := rfl
theorem ins_cases (x : Pp.XIns) (h : Pp.insB x = true) : (0 ≤ x.op ∧ x.op < 44) ∧
    ((∃ lo hi, Pp.argsX x.op = (true, lo, hi, 0) ∧ (-2147483648 ≤ x.n ∧ x.n ≤ 2147483647) ∧ Pp.wordsT (Pp.insW x.toP) = Pp.sayL [wordL x.op] ++ (Pp.sayL [Lx.intL x.n] ++ Pp.sayL [Pp.wSemi])) ∨
     (Pp.argsX x.op = (false, 0, 0, 0) ∧ Pp.wordsT (Pp.insW x.toP) = Pp.sayL [wordL x.op] ++ Pp.sayL [Pp.wSemi]) ∨
     (Pp.argsX x.op = (false, 0, 0, 1) ∧ Pp.wordsT (Pp.insW x.toP) = Pp.sayL [wordL x.op] ++ (Pp.sayL [x.a] ++ Pp.sayL [Pp.wSemi])) ∨
     (Pp.argsX x.op = (false, 0, 0, 2) ∧ Pp.wordsT (Pp.insW x.toP) = Pp.sayL [wordL x.op] ++ (Pp.sayL [x.a] ++ (Pp.sayL [x.b] ++ Pp.sayL [Pp.wSemi])))) := by
  obtain ⟨h0, h1⟩ := (Pp.insB_iff x).1 h
  obtain ⟨op, n, a, b⟩ := x
  obtain ⟨k, rfl⟩ := Int.eq_ofNat_of_zero_le h0
  have hk : k < 44 := by have := h1.1; simpa [Pp.XIns.toP] using this
  have hw : wordL (k : Int) = Pp.opWords.getD k [] := by
    unfold wordL; rw [if_pos ⟨h0, by omega⟩]; simp
  have ha := h1.2
  simp only [Pp.XIns.toP, Int.toNat_natCast] at ha ⊢
  refine ⟨⟨h0, by omega⟩, ?_⟩
  rw [hw, Pp.argsX_shape k hk]
  unfold Pp.okArg at ha
  unfold Pp.insW Pp.argW
  simp only at ha ⊢
  rcases ha with ⟨e, c1, c2, c3, c4⟩ | ⟨e, c1, c2, c3, c4⟩ | ⟨e, c1, c2, c3, c4⟩ | ⟨e, c1, c2, c3⟩ | ⟨e, c1, c2, c3⟩ | ⟨e, c1, c2, c3⟩
  · refine .inl ⟨_, _, by rw [e]; rfl, ⟨by omega, by omega⟩, ?_⟩
    rw [e]; simp [Pp.wordsT, Pp.sayL, wtx_nm, wtx_sg, wtx_nu]
  · refine .inl ⟨_, _, by rw [e]; rfl, ⟨by omega, by omega⟩, ?_⟩
    rw [e]; simp [Pp.wordsT, Pp.sayL, wtx_nm, wtx_sg, wtx_nu]
  · refine .inl ⟨_, _, by rw [e]; rfl, ⟨by omega, by omega⟩, ?_⟩
    rw [e]; simp [Pp.wordsT, Pp.sayL, wtx_nm, wtx_sg, wtx_nu]
  · refine .inr (.inr (.inl ⟨by rw [e]; rfl, ?_⟩))
    rw [e]; simp [Pp.wordsT, Pp.sayL, wtx_nm, wtx_sg, wtx_nu]
  · refine .inr (.inr (.inr ⟨by rw [e]; rfl, ?_⟩))
    rw [e]; simp [Pp.wordsT, Pp.sayL, wtx_nm, wtx_sg, wtx_nu]
  · refine .inr (.inl ⟨by rw [e]; rfl, ?_⟩)
    rw [e]; simp [Pp.wordsT, Pp.sayL, wtx_nm, wtx_sg, wtx_nu]
end Sh

set_option maxRecDepth 100000 in
set_option maxHeartbeats 4000000 in
theorem winstr_n (B b : Nat) (op n : Int) (a b' wd : Pp.Bs) (lo hi : Int) (hO : ∀ w, Calls Tryd.prog 66 #[.int .i64 op] w fun e w' => e = .returned (.agg #[.bool true, .int .i64 lo, .int .i64 hi, .int .i64 0]) ∧ Below w.heap.size w w') (hWd : ∀ w, TabS w → Calls Tryd.prog 67 #[.int .i64 op] w fun e w' => e = .returned (.string ⟨wd.toArray⟩) ∧ w' = w) (hn : -2147483648 ≤ n ∧ n ≤ 2147483647) (l : List UInt8) (v : Value) (w : World) (hw : Sh.Wr B w b l v) (ht : Sh.Tabs B w) (hle : l.length + (Pp.sayL [wd] ++ (Pp.sayL [Lx.intL n] ++ Pp.sayL [Pp.wSemi])).length ≤ 1000000000) :
    Calls Tryd.prog 55 #[.pointer (some ⟨b, 0, none⟩), .agg #[.int .i64 op, .int .i64 n, .string ⟨a.toArray⟩, .string ⟨b'.toArray⟩]] w fun e w' => e = .returned (.tuple #[]) ∧ (∃ v', Sh.Wr B w' b (l ++ (Pp.sayL [wd] ++ (Pp.sayL [Lx.intL n] ++ Pp.sayL [Pp.wSemi]))) v') ∧ Sh.Ke B w w' := by
  have HT := hide ht
  have hwz := hw.alloc (.cells #[.int .i64 op, .int .i64 n, .string ⟨a.toArray⟩, .string ⟨b'.toArray⟩] 45)
  have hkz := Sh.Ke.alloc hw.2.1 (.cells #[.int .i64 op, .int .i64 n, .string ⟨a.toArray⟩, .string ⟨b'.toArray⟩] 45)
  have hz : ∀ wx, Sh.Ke B (w.alloc (.cells #[.int .i64 op, .int .i64 n, .string ⟨a.toArray⟩, .string ⟨b'.toArray⟩] 45)) wx → ∀ j, wx.cell? ⟨w.heap.size, j, none⟩ = #[Value.int .i64 op, .int .i64 n, .string ⟨a.toArray⟩, .string ⟨b'.toArray⟩][j]? := fun wx hx j => hx.cell (heap_alloc_new w _) (by decide) (by decide) j
  have hsz : w.heap.size < (w.alloc (.cells #[.int .i64 op, .int .i64 n, .string ⟨a.toArray⟩, .string ⟨b'.toArray⟩] 45)).heap.size := by simp
  have HZ := hide hz
  have HWZ := hide hwz
  have HKZ := hide hkz
  have HO := hide hO
  have HWd := hide hWd
  simp only [List.length_append] at hle
  have HLE := hide hle
  clear hz hwz hkz hw ht hO hWd hle
  go_enter Tryd.func55, Tryd.ntmps55
  go_wp2_with fail
  generalize w.alloc (.cells #[.int .i64 op, .int .i64 n, .string ⟨a.toArray⟩, .string ⟨b'.toArray⟩] 45) = wz at *
  refine (HO.out _).mono ?_
  rintro e w1 ⟨rfl, hb1⟩
  have hk1 := Sh.Ke.below (B := B) HWZ.out.2.1 hb1
  have hs1 := Nat.lt_of_lt_of_le hsz hb1.size
  have HW1 := hide (HWZ.out.below hb1)
  have hky := hk1.trans (Sh.Ke.alloc HW1.out.2.1 (.cells #[.bool true, .int .i64 lo, .int .i64 hi, .int .i64 0] 107))
  have HZ2 : Hid (∀ wx, Sh.Ke B (w1.alloc (.cells #[.bool true, .int .i64 lo, .int .i64 hi, .int .i64 0] 107)) wx → (∀ j, wx.cell? ⟨w1.heap.size, j, none⟩ = #[Value.bool true, .int .i64 lo, .int .i64 hi, .int .i64 0][j]?) ∧ (∀ j, wx.cell? ⟨w.heap.size, j, none⟩ = #[Value.int .i64 op, .int .i64 n, .string ⟨a.toArray⟩, .string ⟨b'.toArray⟩][j]?)) := hide fun wx hx => ⟨fun j => hx.cell (heap_alloc_new w1 _) (by decide) (by decide) j, fun j => HZ.out _ (hky.trans hx) j⟩
  have HKY := hide (HKZ.out.trans hky)
  have HWY := hide (HW1.out.alloc (.cells #[.bool true, .int .i64 lo, .int .i64 hi, .int .i64 0] 107))
  have q0 : w1.cell? ⟨w.heap.size, 0, none⟩ = some (.int .i64 op) := HZ.out _ hk1 0
  clear HO hb1 hk1 hky HZ HW1 HWZ HKZ hsz
  go_wp2_with fail
  generalize w1.alloc (.cells #[.bool true, .int .i64 lo, .int .i64 hi, .int .i64 0] 107) = wy at *
  have HTY := hide (HT.out.on HKY.out.bel)
  refine (HWd.out _ HTY.out.ws).mono ?_
  rintro e wq ⟨rfl, hwq⟩
  subst hwq
  have HS := hide (say_new B b 1 1 [wd] #[.string ⟨wd.toArray⟩] rfl rfl l v _ HWY.out (by omega) (by have := HLE.out; omega))
  clear HWd q0
  go_wp2_with fail
  refine HS.out.mono ?_
  rintro e w2 ⟨rfl, ⟨v2, h21⟩, h22⟩
  have HK2 := hide h22
  have HW2 := hide h21
  clear h21 h22 HS HWY
  have c0 : w2.cell? ⟨w1.heap.size, 0, none⟩ = some (.bool true) := (HZ2.out _ HK2.out).1 0
  have c3 : w2.cell? ⟨w1.heap.size, 3, none⟩ = some (.int .i64 0) := (HZ2.out _ HK2.out).1 3
  have d1 : w2.cell? ⟨w.heap.size, 1, none⟩ = some (.int .i64 n) := (HZ2.out _ HK2.out).2 1
  have d2 : w2.cell? ⟨w.heap.size, 2, none⟩ = some (.string ⟨a.toArray⟩) := (HZ2.out _ HK2.out).2 2
  have d3 : w2.cell? ⟨w.heap.size, 3, none⟩ = some (.string ⟨b'.toArray⟩) := (HZ2.out _ HK2.out).2 3
  have HTn := hide (HTY.out.on HK2.out.bel)
  have HS := hide (number_new B b 1 1 [n] #[.int .i64 n] rfl rfl _ v2 _ HW2.out HTn.out (by intro m hm; simp at hm; subst hm; exact hn) (by omega) (by have := HLE.out; simp only [List.length_append, List.map_cons, List.map_nil]; omega))
  go_wp2_with fail
  refine HS.out.mono ?_
  rintro e w3 ⟨rfl, ⟨v3, h1⟩, h2⟩
  have HK3 := hide (HK2.out.trans h2)
  have HW3 := hide h1
  clear h1 h2 HS HW2 HK2 c0 c3 d1 d2 d3
  have c0 : w3.cell? ⟨w1.heap.size, 0, none⟩ = some (.bool true) := (HZ2.out _ HK3.out).1 0
  have c3 : w3.cell? ⟨w1.heap.size, 3, none⟩ = some (.int .i64 0) := (HZ2.out _ HK3.out).1 3
  have d1 : w3.cell? ⟨w.heap.size, 1, none⟩ = some (.int .i64 n) := (HZ2.out _ HK3.out).2 1
  have d2 : w3.cell? ⟨w.heap.size, 2, none⟩ = some (.string ⟨a.toArray⟩) := (HZ2.out _ HK3.out).2 2
  have d3 : w3.cell? ⟨w.heap.size, 3, none⟩ = some (.string ⟨b'.toArray⟩) := (HZ2.out _ HK3.out).2 3
  have HS := hide (say_new B b 1 1 [Pp.wSemi] #[.string ⟨#[59]⟩] rfl rfl _ v3 _ HW3.out (by omega) (by have := HLE.out; simp only [List.length_append, List.map_cons, List.map_nil]; omega))
  go_wp2_with fail
  refine HS.out.mono ?_
  rintro e w4 ⟨rfl, ⟨v4, h1⟩, h2⟩
  have HK4 := hide (HK3.out.trans h2)
  have HW4 := hide h1
  clear h1 h2 HS HW3 HK3 c0 c3 d1 d2 d3
  go_wp2_with fail
  refine bodyPost_end (v := .tuple #[]) (by simp [results, Tryd.results55, go_sem]) rfl ⟨rfl, ⟨v4, ?_⟩, HKY.out.trans HK4.out⟩
  have hh := HW4.out
  simp only [List.append_assoc, List.map_cons, List.map_nil] at hh
  simpa only [List.append_assoc] using hh

set_option maxRecDepth 100000 in
set_option maxHeartbeats 4000000 in
theorem winstr_z (B b : Nat) (op n : Int) (a b' wd : Pp.Bs) (hO : ∀ w, Calls Tryd.prog 66 #[.int .i64 op] w fun e w' => e = .returned (.agg #[.bool false, .int .i64 0, .int .i64 0, .int .i64 0]) ∧ Below w.heap.size w w') (hWd : ∀ w, TabS w → Calls Tryd.prog 67 #[.int .i64 op] w fun e w' => e = .returned (.string ⟨wd.toArray⟩) ∧ w' = w) (l : List UInt8) (v : Value) (w : World) (hw : Sh.Wr B w b l v) (ht : Sh.Tabs B w) (hle : l.length + (Pp.sayL [wd] ++ Pp.sayL [Pp.wSemi]).length ≤ 1000000000) :
    Calls Tryd.prog 55 #[.pointer (some ⟨b, 0, none⟩), .agg #[.int .i64 op, .int .i64 n, .string ⟨a.toArray⟩, .string ⟨b'.toArray⟩]] w fun e w' => e = .returned (.tuple #[]) ∧ (∃ v', Sh.Wr B w' b (l ++ (Pp.sayL [wd] ++ Pp.sayL [Pp.wSemi])) v') ∧ Sh.Ke B w w' := by
  have HT := hide ht
  have hwz := hw.alloc (.cells #[.int .i64 op, .int .i64 n, .string ⟨a.toArray⟩, .string ⟨b'.toArray⟩] 45)
  have hkz := Sh.Ke.alloc hw.2.1 (.cells #[.int .i64 op, .int .i64 n, .string ⟨a.toArray⟩, .string ⟨b'.toArray⟩] 45)
  have hz : ∀ wx, Sh.Ke B (w.alloc (.cells #[.int .i64 op, .int .i64 n, .string ⟨a.toArray⟩, .string ⟨b'.toArray⟩] 45)) wx → ∀ j, wx.cell? ⟨w.heap.size, j, none⟩ = #[Value.int .i64 op, .int .i64 n, .string ⟨a.toArray⟩, .string ⟨b'.toArray⟩][j]? := fun wx hx j => hx.cell (heap_alloc_new w _) (by decide) (by decide) j
  have hsz : w.heap.size < (w.alloc (.cells #[.int .i64 op, .int .i64 n, .string ⟨a.toArray⟩, .string ⟨b'.toArray⟩] 45)).heap.size := by simp
  have HZ := hide hz
  have HWZ := hide hwz
  have HKZ := hide hkz
  have HO := hide hO
  have HWd := hide hWd
  simp only [List.length_append] at hle
  have HLE := hide hle
  clear hz hwz hkz hw ht hO hWd hle
  go_enter Tryd.func55, Tryd.ntmps55
  go_wp2_with fail
  generalize w.alloc (.cells #[.int .i64 op, .int .i64 n, .string ⟨a.toArray⟩, .string ⟨b'.toArray⟩] 45) = wz at *
  refine (HO.out _).mono ?_
  rintro e w1 ⟨rfl, hb1⟩
  have hk1 := Sh.Ke.below (B := B) HWZ.out.2.1 hb1
  have hs1 := Nat.lt_of_lt_of_le hsz hb1.size
  have HW1 := hide (HWZ.out.below hb1)
  have hky := hk1.trans (Sh.Ke.alloc HW1.out.2.1 (.cells #[.bool false, .int .i64 0, .int .i64 0, .int .i64 0] 107))
  have HZ2 : Hid (∀ wx, Sh.Ke B (w1.alloc (.cells #[.bool false, .int .i64 0, .int .i64 0, .int .i64 0] 107)) wx → (∀ j, wx.cell? ⟨w1.heap.size, j, none⟩ = #[Value.bool false, .int .i64 0, .int .i64 0, .int .i64 0][j]?) ∧ (∀ j, wx.cell? ⟨w.heap.size, j, none⟩ = #[Value.int .i64 op, .int .i64 n, .string ⟨a.toArray⟩, .string ⟨b'.toArray⟩][j]?)) := hide fun wx hx => ⟨fun j => hx.cell (heap_alloc_new w1 _) (by decide) (by decide) j, fun j => HZ.out _ (hky.trans hx) j⟩
  have HKY := hide (HKZ.out.trans hky)
  have HWY := hide (HW1.out.alloc (.cells #[.bool false, .int .i64 0, .int .i64 0, .int .i64 0] 107))
  have q0 : w1.cell? ⟨w.heap.size, 0, none⟩ = some (.int .i64 op) := HZ.out _ hk1 0
  clear HO hb1 hk1 hky HZ HW1 HWZ HKZ hsz
  go_wp2_with fail
  generalize w1.alloc (.cells #[.bool false, .int .i64 0, .int .i64 0, .int .i64 0] 107) = wy at *
  have HTY := hide (HT.out.on HKY.out.bel)
  refine (HWd.out _ HTY.out.ws).mono ?_
  rintro e wq ⟨rfl, hwq⟩
  subst hwq
  have HS := hide (say_new B b 1 1 [wd] #[.string ⟨wd.toArray⟩] rfl rfl l v _ HWY.out (by omega) (by have := HLE.out; omega))
  clear HWd q0
  go_wp2_with fail
  refine HS.out.mono ?_
  rintro e w2 ⟨rfl, ⟨v2, h21⟩, h22⟩
  have HK2 := hide h22
  have HW2 := hide h21
  clear h21 h22 HS HWY
  have c0 : w2.cell? ⟨w1.heap.size, 0, none⟩ = some (.bool false) := (HZ2.out _ HK2.out).1 0
  have c3 : w2.cell? ⟨w1.heap.size, 3, none⟩ = some (.int .i64 0) := (HZ2.out _ HK2.out).1 3
  have d1 : w2.cell? ⟨w.heap.size, 1, none⟩ = some (.int .i64 n) := (HZ2.out _ HK2.out).2 1
  have d2 : w2.cell? ⟨w.heap.size, 2, none⟩ = some (.string ⟨a.toArray⟩) := (HZ2.out _ HK2.out).2 2
  have d3 : w2.cell? ⟨w.heap.size, 3, none⟩ = some (.string ⟨b'.toArray⟩) := (HZ2.out _ HK2.out).2 3
  have HS := hide (say_new B b 1 1 [Pp.wSemi] #[.string ⟨#[59]⟩] rfl rfl _ v2 _ HW2.out (by omega) (by have := HLE.out; simp only [List.length_append, List.map_cons, List.map_nil]; omega))
  go_wp2_with fail
  refine HS.out.mono ?_
  rintro e w3 ⟨rfl, ⟨v3, h1⟩, h2⟩
  have HK3 := hide (HK2.out.trans h2)
  have HW3 := hide h1
  clear h1 h2 HS HW2 HK2 c0 c3 d1 d2 d3
  go_wp2_with fail
  refine bodyPost_end (v := .tuple #[]) (by simp [results, Tryd.results55, go_sem]) rfl ⟨rfl, ⟨v3, ?_⟩, HKY.out.trans HK3.out⟩
  have hh := HW3.out
  simp only [List.append_assoc, List.map_cons, List.map_nil] at hh
  simpa only [List.append_assoc] using hh

set_option maxRecDepth 100000 in
set_option maxHeartbeats 4000000 in
theorem winstr_a (B b : Nat) (op n : Int) (a b' wd : Pp.Bs) (hO : ∀ w, Calls Tryd.prog 66 #[.int .i64 op] w fun e w' => e = .returned (.agg #[.bool false, .int .i64 0, .int .i64 0, .int .i64 1]) ∧ Below w.heap.size w w') (hWd : ∀ w, TabS w → Calls Tryd.prog 67 #[.int .i64 op] w fun e w' => e = .returned (.string ⟨wd.toArray⟩) ∧ w' = w) (l : List UInt8) (v : Value) (w : World) (hw : Sh.Wr B w b l v) (ht : Sh.Tabs B w) (hle : l.length + (Pp.sayL [wd] ++ (Pp.sayL [a] ++ Pp.sayL [Pp.wSemi])).length ≤ 1000000000) :
    Calls Tryd.prog 55 #[.pointer (some ⟨b, 0, none⟩), .agg #[.int .i64 op, .int .i64 n, .string ⟨a.toArray⟩, .string ⟨b'.toArray⟩]] w fun e w' => e = .returned (.tuple #[]) ∧ (∃ v', Sh.Wr B w' b (l ++ (Pp.sayL [wd] ++ (Pp.sayL [a] ++ Pp.sayL [Pp.wSemi]))) v') ∧ Sh.Ke B w w' := by
  have HT := hide ht
  have hwz := hw.alloc (.cells #[.int .i64 op, .int .i64 n, .string ⟨a.toArray⟩, .string ⟨b'.toArray⟩] 45)
  have hkz := Sh.Ke.alloc hw.2.1 (.cells #[.int .i64 op, .int .i64 n, .string ⟨a.toArray⟩, .string ⟨b'.toArray⟩] 45)
  have hz : ∀ wx, Sh.Ke B (w.alloc (.cells #[.int .i64 op, .int .i64 n, .string ⟨a.toArray⟩, .string ⟨b'.toArray⟩] 45)) wx → ∀ j, wx.cell? ⟨w.heap.size, j, none⟩ = #[Value.int .i64 op, .int .i64 n, .string ⟨a.toArray⟩, .string ⟨b'.toArray⟩][j]? := fun wx hx j => hx.cell (heap_alloc_new w _) (by decide) (by decide) j
  have hsz : w.heap.size < (w.alloc (.cells #[.int .i64 op, .int .i64 n, .string ⟨a.toArray⟩, .string ⟨b'.toArray⟩] 45)).heap.size := by simp
  have HZ := hide hz
  have HWZ := hide hwz
  have HKZ := hide hkz
  have HO := hide hO
  have HWd := hide hWd
  simp only [List.length_append] at hle
  have HLE := hide hle
  clear hz hwz hkz hw ht hO hWd hle
  go_enter Tryd.func55, Tryd.ntmps55
  go_wp2_with fail
  generalize w.alloc (.cells #[.int .i64 op, .int .i64 n, .string ⟨a.toArray⟩, .string ⟨b'.toArray⟩] 45) = wz at *
  refine (HO.out _).mono ?_
  rintro e w1 ⟨rfl, hb1⟩
  have hk1 := Sh.Ke.below (B := B) HWZ.out.2.1 hb1
  have hs1 := Nat.lt_of_lt_of_le hsz hb1.size
  have HW1 := hide (HWZ.out.below hb1)
  have hky := hk1.trans (Sh.Ke.alloc HW1.out.2.1 (.cells #[.bool false, .int .i64 0, .int .i64 0, .int .i64 1] 107))
  have HZ2 : Hid (∀ wx, Sh.Ke B (w1.alloc (.cells #[.bool false, .int .i64 0, .int .i64 0, .int .i64 1] 107)) wx → (∀ j, wx.cell? ⟨w1.heap.size, j, none⟩ = #[Value.bool false, .int .i64 0, .int .i64 0, .int .i64 1][j]?) ∧ (∀ j, wx.cell? ⟨w.heap.size, j, none⟩ = #[Value.int .i64 op, .int .i64 n, .string ⟨a.toArray⟩, .string ⟨b'.toArray⟩][j]?)) := hide fun wx hx => ⟨fun j => hx.cell (heap_alloc_new w1 _) (by decide) (by decide) j, fun j => HZ.out _ (hky.trans hx) j⟩
  have HKY := hide (HKZ.out.trans hky)
  have HWY := hide (HW1.out.alloc (.cells #[.bool false, .int .i64 0, .int .i64 0, .int .i64 1] 107))
  have q0 : w1.cell? ⟨w.heap.size, 0, none⟩ = some (.int .i64 op) := HZ.out _ hk1 0
  clear HO hb1 hk1 hky HZ HW1 HWZ HKZ hsz
  go_wp2_with fail
  generalize w1.alloc (.cells #[.bool false, .int .i64 0, .int .i64 0, .int .i64 1] 107) = wy at *
  have HTY := hide (HT.out.on HKY.out.bel)
  refine (HWd.out _ HTY.out.ws).mono ?_
  rintro e wq ⟨rfl, hwq⟩
  subst hwq
  have HS := hide (say_new B b 1 1 [wd] #[.string ⟨wd.toArray⟩] rfl rfl l v _ HWY.out (by omega) (by have := HLE.out; omega))
  clear HWd q0
  go_wp2_with fail
  refine HS.out.mono ?_
  rintro e w2 ⟨rfl, ⟨v2, h21⟩, h22⟩
  have HK2 := hide h22
  have HW2 := hide h21
  clear h21 h22 HS HWY
  have c0 : w2.cell? ⟨w1.heap.size, 0, none⟩ = some (.bool false) := (HZ2.out _ HK2.out).1 0
  have c3 : w2.cell? ⟨w1.heap.size, 3, none⟩ = some (.int .i64 1) := (HZ2.out _ HK2.out).1 3
  have d1 : w2.cell? ⟨w.heap.size, 1, none⟩ = some (.int .i64 n) := (HZ2.out _ HK2.out).2 1
  have d2 : w2.cell? ⟨w.heap.size, 2, none⟩ = some (.string ⟨a.toArray⟩) := (HZ2.out _ HK2.out).2 2
  have d3 : w2.cell? ⟨w.heap.size, 3, none⟩ = some (.string ⟨b'.toArray⟩) := (HZ2.out _ HK2.out).2 3
  have HS := hide (say_new B b 1 1 [a] #[.string ⟨a.toArray⟩] rfl rfl _ v2 _ HW2.out (by omega) (by have := HLE.out; simp only [List.length_append, List.map_cons, List.map_nil]; omega))
  go_wp2_with fail
  refine HS.out.mono ?_
  rintro e w3 ⟨rfl, ⟨v3, h1⟩, h2⟩
  have HK3 := hide (HK2.out.trans h2)
  have HW3 := hide h1
  clear h1 h2 HS HW2 HK2 c0 c3 d1 d2 d3
  have c0 : w3.cell? ⟨w1.heap.size, 0, none⟩ = some (.bool false) := (HZ2.out _ HK3.out).1 0
  have c3 : w3.cell? ⟨w1.heap.size, 3, none⟩ = some (.int .i64 1) := (HZ2.out _ HK3.out).1 3
  have d1 : w3.cell? ⟨w.heap.size, 1, none⟩ = some (.int .i64 n) := (HZ2.out _ HK3.out).2 1
  have d2 : w3.cell? ⟨w.heap.size, 2, none⟩ = some (.string ⟨a.toArray⟩) := (HZ2.out _ HK3.out).2 2
  have d3 : w3.cell? ⟨w.heap.size, 3, none⟩ = some (.string ⟨b'.toArray⟩) := (HZ2.out _ HK3.out).2 3
  have HS := hide (say_new B b 1 1 [Pp.wSemi] #[.string ⟨#[59]⟩] rfl rfl _ v3 _ HW3.out (by omega) (by have := HLE.out; simp only [List.length_append, List.map_cons, List.map_nil]; omega))
  go_wp2_with fail
  refine HS.out.mono ?_
  rintro e w4 ⟨rfl, ⟨v4, h1⟩, h2⟩
  have HK4 := hide (HK3.out.trans h2)
  have HW4 := hide h1
  clear h1 h2 HS HW3 HK3 c0 c3 d1 d2 d3
  go_wp2_with fail
  refine bodyPost_end (v := .tuple #[]) (by simp [results, Tryd.results55, go_sem]) rfl ⟨rfl, ⟨v4, ?_⟩, HKY.out.trans HK4.out⟩
  have hh := HW4.out
  simp only [List.append_assoc, List.map_cons, List.map_nil] at hh
  simpa only [List.append_assoc] using hh

set_option maxRecDepth 100000 in
set_option maxHeartbeats 4000000 in
theorem winstr_b (B b : Nat) (op n : Int) (a b' wd : Pp.Bs) (hO : ∀ w, Calls Tryd.prog 66 #[.int .i64 op] w fun e w' => e = .returned (.agg #[.bool false, .int .i64 0, .int .i64 0, .int .i64 2]) ∧ Below w.heap.size w w') (hWd : ∀ w, TabS w → Calls Tryd.prog 67 #[.int .i64 op] w fun e w' => e = .returned (.string ⟨wd.toArray⟩) ∧ w' = w) (l : List UInt8) (v : Value) (w : World) (hw : Sh.Wr B w b l v) (ht : Sh.Tabs B w) (hle : l.length + (Pp.sayL [wd] ++ (Pp.sayL [a] ++ (Pp.sayL [b'] ++ Pp.sayL [Pp.wSemi]))).length ≤ 1000000000) :
    Calls Tryd.prog 55 #[.pointer (some ⟨b, 0, none⟩), .agg #[.int .i64 op, .int .i64 n, .string ⟨a.toArray⟩, .string ⟨b'.toArray⟩]] w fun e w' => e = .returned (.tuple #[]) ∧ (∃ v', Sh.Wr B w' b (l ++ (Pp.sayL [wd] ++ (Pp.sayL [a] ++ (Pp.sayL [b'] ++ Pp.sayL [Pp.wSemi])))) v') ∧ Sh.Ke B w w' := by
  have HT := hide ht
  have hwz := hw.alloc (.cells #[.int .i64 op, .int .i64 n, .string ⟨a.toArray⟩, .string ⟨b'.toArray⟩] 45)
  have hkz := Sh.Ke.alloc hw.2.1 (.cells #[.int .i64 op, .int .i64 n, .string ⟨a.toArray⟩, .string ⟨b'.toArray⟩] 45)
  have hz : ∀ wx, Sh.Ke B (w.alloc (.cells #[.int .i64 op, .int .i64 n, .string ⟨a.toArray⟩, .string ⟨b'.toArray⟩] 45)) wx → ∀ j, wx.cell? ⟨w.heap.size, j, none⟩ = #[Value.int .i64 op, .int .i64 n, .string ⟨a.toArray⟩, .string ⟨b'.toArray⟩][j]? := fun wx hx j => hx.cell (heap_alloc_new w _) (by decide) (by decide) j
  have hsz : w.heap.size < (w.alloc (.cells #[.int .i64 op, .int .i64 n, .string ⟨a.toArray⟩, .string ⟨b'.toArray⟩] 45)).heap.size := by simp
  have HZ := hide hz
  have HWZ := hide hwz
  have HKZ := hide hkz
  have HO := hide hO
  have HWd := hide hWd
  simp only [List.length_append] at hle
  have HLE := hide hle
  clear hz hwz hkz hw ht hO hWd hle
  go_enter Tryd.func55, Tryd.ntmps55
  go_wp2_with fail
  generalize w.alloc (.cells #[.int .i64 op, .int .i64 n, .string ⟨a.toArray⟩, .string ⟨b'.toArray⟩] 45) = wz at *
  refine (HO.out _).mono ?_
  rintro e w1 ⟨rfl, hb1⟩
  have hk1 := Sh.Ke.below (B := B) HWZ.out.2.1 hb1
  have hs1 := Nat.lt_of_lt_of_le hsz hb1.size
  have HW1 := hide (HWZ.out.below hb1)
  have hky := hk1.trans (Sh.Ke.alloc HW1.out.2.1 (.cells #[.bool false, .int .i64 0, .int .i64 0, .int .i64 2] 107))
  have HZ2 : Hid (∀ wx, Sh.Ke B (w1.alloc (.cells #[.bool false, .int .i64 0, .int .i64 0, .int .i64 2] 107)) wx → (∀ j, wx.cell? ⟨w1.heap.size, j, none⟩ = #[Value.bool false, .int .i64 0, .int .i64 0, .int .i64 2][j]?) ∧ (∀ j, wx.cell? ⟨w.heap.size, j, none⟩ = #[Value.int .i64 op, .int .i64 n, .string ⟨a.toArray⟩, .string ⟨b'.toArray⟩][j]?)) := hide fun wx hx => ⟨fun j => hx.cell (heap_alloc_new w1 _) (by decide) (by decide) j, fun j => HZ.out _ (hky.trans hx) j⟩
  have HKY := hide (HKZ.out.trans hky)
  have HWY := hide (HW1.out.alloc (.cells #[.bool false, .int .i64 0, .int .i64 0, .int .i64 2] 107))
  have q0 : w1.cell? ⟨w.heap.size, 0, none⟩ = some (.int .i64 op) := HZ.out _ hk1 0
  clear HO hb1 hk1 hky HZ HW1 HWZ HKZ hsz
  go_wp2_with fail
  generalize w1.alloc (.cells #[.bool false, .int .i64 0, .int .i64 0, .int .i64 2] 107) = wy at *
  have HTY := hide (HT.out.on HKY.out.bel)
  refine (HWd.out _ HTY.out.ws).mono ?_
  rintro e wq ⟨rfl, hwq⟩
  subst hwq
  have HS := hide (say_new B b 1 1 [wd] #[.string ⟨wd.toArray⟩] rfl rfl l v _ HWY.out (by omega) (by have := HLE.out; omega))
  clear HWd q0
  go_wp2_with fail
  refine HS.out.mono ?_
  rintro e w2 ⟨rfl, ⟨v2, h21⟩, h22⟩
  have HK2 := hide h22
  have HW2 := hide h21
  clear h21 h22 HS HWY
  have c0 : w2.cell? ⟨w1.heap.size, 0, none⟩ = some (.bool false) := (HZ2.out _ HK2.out).1 0
  have c3 : w2.cell? ⟨w1.heap.size, 3, none⟩ = some (.int .i64 2) := (HZ2.out _ HK2.out).1 3
  have d1 : w2.cell? ⟨w.heap.size, 1, none⟩ = some (.int .i64 n) := (HZ2.out _ HK2.out).2 1
  have d2 : w2.cell? ⟨w.heap.size, 2, none⟩ = some (.string ⟨a.toArray⟩) := (HZ2.out _ HK2.out).2 2
  have d3 : w2.cell? ⟨w.heap.size, 3, none⟩ = some (.string ⟨b'.toArray⟩) := (HZ2.out _ HK2.out).2 3
  have HS := hide (say_new B b 1 1 [a] #[.string ⟨a.toArray⟩] rfl rfl _ v2 _ HW2.out (by omega) (by have := HLE.out; simp only [List.length_append, List.map_cons, List.map_nil]; omega))
  go_wp2_with fail
  refine HS.out.mono ?_
  rintro e w3 ⟨rfl, ⟨v3, h1⟩, h2⟩
  have HK3 := hide (HK2.out.trans h2)
  have HW3 := hide h1
  clear h1 h2 HS HW2 HK2 c0 c3 d1 d2 d3
  have c0 : w3.cell? ⟨w1.heap.size, 0, none⟩ = some (.bool false) := (HZ2.out _ HK3.out).1 0
  have c3 : w3.cell? ⟨w1.heap.size, 3, none⟩ = some (.int .i64 2) := (HZ2.out _ HK3.out).1 3
  have d1 : w3.cell? ⟨w.heap.size, 1, none⟩ = some (.int .i64 n) := (HZ2.out _ HK3.out).2 1
  have d2 : w3.cell? ⟨w.heap.size, 2, none⟩ = some (.string ⟨a.toArray⟩) := (HZ2.out _ HK3.out).2 2
  have d3 : w3.cell? ⟨w.heap.size, 3, none⟩ = some (.string ⟨b'.toArray⟩) := (HZ2.out _ HK3.out).2 3
  have HS := hide (say_new B b 1 1 [b'] #[.string ⟨b'.toArray⟩] rfl rfl _ v3 _ HW3.out (by omega) (by have := HLE.out; simp only [List.length_append, List.map_cons, List.map_nil]; omega))
  go_wp2_with fail
  refine HS.out.mono ?_
  rintro e w4 ⟨rfl, ⟨v4, h1⟩, h2⟩
  have HK4 := hide (HK3.out.trans h2)
  have HW4 := hide h1
  clear h1 h2 HS HW3 HK3 c0 c3 d1 d2 d3
  have c0 : w4.cell? ⟨w1.heap.size, 0, none⟩ = some (.bool false) := (HZ2.out _ HK4.out).1 0
  have c3 : w4.cell? ⟨w1.heap.size, 3, none⟩ = some (.int .i64 2) := (HZ2.out _ HK4.out).1 3
  have d1 : w4.cell? ⟨w.heap.size, 1, none⟩ = some (.int .i64 n) := (HZ2.out _ HK4.out).2 1
  have d2 : w4.cell? ⟨w.heap.size, 2, none⟩ = some (.string ⟨a.toArray⟩) := (HZ2.out _ HK4.out).2 2
  have d3 : w4.cell? ⟨w.heap.size, 3, none⟩ = some (.string ⟨b'.toArray⟩) := (HZ2.out _ HK4.out).2 3
  have HS := hide (say_new B b 1 1 [Pp.wSemi] #[.string ⟨#[59]⟩] rfl rfl _ v4 _ HW4.out (by omega) (by have := HLE.out; simp only [List.length_append, List.map_cons, List.map_nil]; omega))
  go_wp2_with fail
  refine HS.out.mono ?_
  rintro e w5 ⟨rfl, ⟨v5, h1⟩, h2⟩
  have HK5 := hide (HK4.out.trans h2)
  have HW5 := hide h1
  clear h1 h2 HS HW4 HK4 c0 c3 d1 d2 d3
  go_wp2_with fail
  refine bodyPost_end (v := .tuple #[]) (by simp [results, Tryd.results55, go_sem]) rfl ⟨rfl, ⟨v5, ?_⟩, HKY.out.trans HK5.out⟩
  have hh := HW5.out
  simp only [List.append_assoc, List.map_cons, List.map_nil] at hh
  simpa only [List.append_assoc] using hh

theorem winstr_any (B b : Nat) (x : Pp.XIns) (hok : Pp.insB x = true) (l : List UInt8) (v : Value) (w : World) (hw : Sh.Wr B w b l v) (ht : Sh.Tabs B w) (hle : l.length + (Pp.wordsT (Pp.insW x.toP)).length ≤ 1000000000) :
    Calls Tryd.prog 55 #[.pointer (some ⟨b, 0, none⟩), .agg #[.int .i64 x.op, .int .i64 x.n, .string ⟨x.a.toArray⟩, .string ⟨x.b.toArray⟩]] w fun e w' => e = .returned (.tuple #[]) ∧ (∃ v', Sh.Wr B w' b (l ++ Pp.wordsT (Pp.insW x.toP)) v') ∧ Sh.Ke B w w' := by
  obtain ⟨hop, hcase⟩ := Sh.ins_cases x hok
  have hO := fun w => argsOf_any x.op w
  rcases hcase with ⟨lo, hi, e1, e2, e3⟩ | ⟨e1, e3⟩ | ⟨e1, e3⟩ | ⟨e1, e3⟩
  · rw [e1] at hO; rw [e3] at hle ⊢
    exact winstr_n B b x.op x.n x.a x.b _ lo hi hO (fun w h => Word_any x.op w h) e2 l v w hw ht hle
  · rw [e1] at hO; rw [e3] at hle ⊢
    exact winstr_z B b x.op x.n x.a x.b _ hO (fun w h => Word_any x.op w h) l v w hw ht hle
  · rw [e1] at hO; rw [e3] at hle ⊢
    exact winstr_a B b x.op x.n x.a x.b _ hO (fun w h => Word_any x.op w h) l v w hw ht hle
  · rw [e1] at hO; rw [e3] at hle ⊢
    exact winstr_b B b x.op x.n x.a x.b _ hO (fun w h => Word_any x.op w h) l v w hw ht hle

end Go.Proofs.YtdgfidaopkcjoabDoor

/- What Strings, Method answer of any two. -/
import Derived.Test.YtdgfidaopkcjoaaDoorEqX
namespace Go.Proofs.YtdgfidaopkcjoaaDoor
open Go.RowKit
set_option linter.unusedVariables false
set_option linter.unusedSimpArgs false

theorem box_two {w w' : World} {c1 c2 : Array Value} {t1 t2 : TypeId} (hb : Below ((w.alloc (.cells c1 t1)).alloc (.cells c2 t2)).heap.size ((w.alloc (.cells c1 t1)).alloc (.cells c2 t2)) w') :
    (∀ k, w'.cell? ⟨w.heap.size, k, none⟩ = c1[k]?) ∧ (∀ k, w'.cell? ⟨w.heap.size + 1, k, none⟩ = c2[k]?) ∧ Below w.heap.size w w' := by
  refine ⟨fun k => ?_, fun k => ?_, ?_⟩
  · refine cell_box (t := t1) (f := (0, 0)) ?_ k
    rw [hb.block w.heap.size (by simp; omega), Below.heap_alloc _ _ _ (by simp)]
    exact heap_alloc_new w _
  · refine cell_box (t := t2) (f := (0, 0)) ?_ k
    rw [hb.block (w.heap.size + 1) (by simp)]
    have := heap_alloc_new (w.alloc (.cells c1 t1)) (.cells c2 t2)
    simpa using this
  · exact (((Below.refl _ _).alloc (Nat.le_refl _) _).alloc (by simp) _).trans (hb.mono (by simp; omega))

set_option maxRecDepth 100000 in
set_option maxHeartbeats 4000000 in
theorem Strings_eq (l1 l2 : List Pp.Bs) (v1 v2 : Value) (w : World) (h1 : RowX w 1 StrX v1 l1) (h2 : RowX w 1 StrX v2 l2) (n1 : l1.length ≤ 100000) (n2 : l2.length ≤ 100000) :
    Calls Tryd.prog 65 #[v1, v2] w fun e w' => Eq.Is l1 l2 e ∧ Below w.heap.size w w' := by
  obtain ⟨a1, c1, rfl, _⟩ := h1.len
  obtain ⟨a2, c2, rfl, _⟩ := h2.len
  have H1 := hide h1
  have H2 := hide h2
  obtain ⟨m1, hm1⟩ : ∃ m, m = l1.length := ⟨_, rfl⟩
  obtain ⟨m2, hm2⟩ : ∃ m, m = l2.length := ⟨_, rfl⟩
  have HM1 := hide hm1
  have HM2 := hide hm2
  rw [← hm1] at H1 n1 ⊢
  rw [← hm2] at H2 n2 ⊢
  clear h1 h2 hm1 hm2
  by_cases hne : m1 = m2
  · subst hne
    go_enter Tryd.func65, Tryd.ntmps65
    go_wp2_with fail
    go_loopw [5] (fun i wr => ∃ k : Nat, k ≤ m1 ∧ i = .int .i64 k ∧ Below w.heap.size w wr ∧ Hid (l1.take k = l2.take k)) (fun i _ => m1 - (intOf i).toNat)
    case atStart => exact ⟨0, Nat.zero_le _, rfl, Below.refl _ _, rfl⟩
    case round =>
      obtain ⟨k, hk, rfl, hbel, HT⟩ := hrel
      by_cases hlt : k < m1
      · obtain ⟨x, hx⟩ : ∃ x, l1[k]? = some x := ⟨l1[k]'(by rw [← HM1.out]; exact hlt), List.getElem?_eq_getElem _⟩
        obtain ⟨y, hy⟩ : ∃ y, l2[k]? = some y := ⟨l2[k]'(by rw [← HM2.out]; exact hlt), List.getElem?_eq_getElem _⟩
        obtain ⟨g1, o1, rfl, ys1, e1, hc1⟩ := Eq.row_at H1.out hx
        obtain ⟨g2, o2, rfl, ys2, e2, hc2⟩ := Eq.row_at H2.out hy
        obtain rfl : ys1 = _ := e1.1
        obtain rfl : ys2 = _ := e2.1
        have r0 := hc1 wr hbel 0 _ rfl
        have s0 := hc2 wr hbel 0 _ rfl
        rw [Nat.add_zero, Nat.mul_one] at r0 s0
        have HX := hide hx
        have HY := hide hy
        clear hc1 hc2 hx hy e1 e2
        have hlt' : (k : Int) < (m1 : Int) := by omega
        by_cases en : x = y
        · subst en
          have HS := hide (Eq.take_step HT.out HX.out HY.out)
          generalize (⟨x.toArray⟩ : ByteArray) = S at *
          go_wp2_with fail
          go_quiet (fail)
          go_wp2_with fail
          go_roundw
          case rel => exact ⟨k + 1, by omega, by go_num, by first | exact hbel | exact below_drewN hbel _, HS⟩
          case measure => simp [intOf]; omega
        · have HN := hide (Eq.ne_at HX.out HY.out en)
          have en' : (x == y) = false := by simpa using en
          go_wp2_with fail
          go_quiet (fail)
          go_wp2_with fail
          go_ret
          exact ⟨Eq.no HN.out, by first | exact hbel | exact below_drewN hbel _⟩
      · have HE := hide (Eq.take_end HT.out (by rw [← HM1.out]; omega) (by rw [← HM2.out]; omega))
        go_wp2_with fail
        go_ret
        exact ⟨Eq.yes HE.out, hbel⟩
  · have hne' : ((m1 : Int) != (m2 : Int)) = true := by simp; omega
    have HN : Hid (l1 ≠ l2) := hide (fun e => hne (by rw [HM1.out, HM2.out, e]))
    go_enter Tryd.func65, Tryd.ntmps65
    go_wp2_with fail
    go_ret
    exact ⟨Eq.no HN.out, Below.refl _ _⟩

set_option maxRecDepth 100000 in
set_option maxHeartbeats 16000000 in
theorem Method_eq (p q : Pp.XMth) (ys1 ys2 : List Value) (w : World) (h1 : MthX w p ys1) (h2 : MthX w q ys2) (b1 : Pp.LtM p) (b2 : Pp.LtM q) :
    Calls Tryd.prog 66 #[.agg ys1.toArray, .agg ys2.toArray] w fun e w' => Eq.Is p q e ∧ Below w.heap.size w w' := by
  obtain ⟨vp1, vc1, vk1, rfl, p1, i1, k1, z1⟩ := h1
  obtain ⟨vp2, vc2, vk2, rfl, p2, i2, k2, z2⟩ := h2
  have c1 := b1.1
  have c2 := b2.1
  obtain ⟨n1, st1, ab1, ps1, rt1, lo1, co1, ca1⟩ := p
  obtain ⟨n2, st2, ab2, ps2, rt2, lo2, co2, ca2⟩ := q
  simp only at p1 i1 k1 p2 i2 k2 c1 c2
  have HP := hide (fun w' (hb : Below w.heap.size w w') => Types_eq ps1 ps2 vp1 vp2 w' (p1.on hb fun _ _ h => h) (p2.on hb fun _ _ h => h) (by omega) (by omega))
  obtain ⟨pa1, pc1, rfl, _⟩ := p1.len
  obtain ⟨pa2, pc2, rfl, _⟩ := p2.len
  obtain ⟨ca, cc, rfl, _⟩ := i1.len
  obtain ⟨da, dc, rfl, _⟩ := i2.len
  obtain ⟨ka, kc, rfl, _⟩ := k1.len
  obtain ⟨ea, ec, rfl, _⟩ := k2.len
  have HI1 := hide i1
  have HI2 := hide i2
  have HK1 := hide k1
  have HK2 := hide k2
  clear p1 p2 i1 i2 k1 k2 z1 z2 b1 b2
  simp only [mthXL, List.toArray]
  obtain ⟨m1, hm1⟩ : ∃ m, m = co1.length := ⟨_, rfl⟩
  obtain ⟨m2, hm2⟩ : ∃ m, m = co2.length := ⟨_, rfl⟩
  obtain ⟨j1, hj1⟩ : ∃ m, m = ca1.length := ⟨_, rfl⟩
  obtain ⟨j2, hj2⟩ : ∃ m, m = ca2.length := ⟨_, rfl⟩
  have HM1 := hide hm1
  have HM2 := hide hm2
  have HJ1 := hide hj1
  have HJ2 := hide hj2
  rw [← hm1] at HI1 ⊢
  rw [← hm2] at HI2 ⊢
  rw [← hj1] at HK1 ⊢
  rw [← hj2] at HK2 ⊢
  have l1 : m1 ≤ 60 := by rw [hm1]; exact c1.2.2.1
  have l2 : m2 ≤ 60 := by rw [hm2]; exact c2.2.2.1
  have l3 : j1 ≤ 10 := by rw [hj1]; exact c1.2.2.2.1
  have l4 : j2 ≤ 10 := by rw [hj2]; exact c2.2.2.2.1
  clear hm1 hm2 hj1 hj2 c1 c2
  obtain ⟨kr1, nr1⟩ := rt1
  obtain ⟨kr2, nr2⟩ := rt2
  simp only
  have HB00 : Hid (∀ o o', Below w.heap.size w ((w.alloc o).alloc o')) := hide fun o o' => ((Below.refl _ _).alloc (Nat.le_refl _) _).alloc (by simp) _
  by_cases e1 : n1 = n2
  case neg =>
    have HN := hide (fun e : (⟨n1, st1, ab1, ps1, ⟨kr1, nr1⟩, lo1, co1, ca1⟩ : Pp.XMth) = ⟨n2, st2, ab2, ps2, ⟨kr2, nr2⟩, lo2, co2, ca2⟩ => e1 (congrArg Pp.XMth.name e))
    have e1' : (n1 == n2) = false := by simpa using e1
    go_enter Tryd.func66, Tryd.ntmps66
    go_wp2_with fail
    go_ret
    exact ⟨Eq.no HN.out, HB00.out _ _⟩
  subst e1
  by_cases e2 : st1 = st2
  case neg =>
    have HN := hide (fun e : (⟨n1, st1, ab1, ps1, ⟨kr1, nr1⟩, lo1, co1, ca1⟩ : Pp.XMth) = ⟨n1, st2, ab2, ps2, ⟨kr2, nr2⟩, lo2, co2, ca2⟩ => e2 (congrArg Pp.XMth.stat e))
    have e2' : (st1 == st2) = false := by simpa using e2
    generalize (⟨n1.toArray⟩ : ByteArray) = S1
    go_enter Tryd.func66, Tryd.ntmps66
    go_wp2_with fail
    go_ret
    exact ⟨Eq.no HN.out, HB00.out _ _⟩
  subst e2
  by_cases e3 : ab1 = ab2
  case neg =>
    have HN := hide (fun e : (⟨n1, st1, ab1, ps1, ⟨kr1, nr1⟩, lo1, co1, ca1⟩ : Pp.XMth) = ⟨n1, st1, ab2, ps2, ⟨kr2, nr2⟩, lo2, co2, ca2⟩ => e3 (congrArg Pp.XMth.abst e))
    have e3' : (ab1 == ab2) = false := by simpa using e3
    generalize (⟨n1.toArray⟩ : ByteArray) = S1
    go_enter Tryd.func66, Tryd.ntmps66
    go_wp2_with fail
    go_ret
    exact ⟨Eq.no HN.out, HB00.out _ _⟩
  subst e3
  have HNE : Hid (∀ r2 l2 c2 k2 p2, (ps1 ≠ p2 ∨ (⟨kr1, nr1⟩ : Pp.Ty) ≠ r2 ∨ lo1 ≠ l2 ∨ co1 ≠ c2 ∨ ca1 ≠ k2) → (⟨n1, st1, ab1, ps1, ⟨kr1, nr1⟩, lo1, co1, ca1⟩ : Pp.XMth) ≠ ⟨n1, st1, ab1, p2, r2, l2, c2, k2⟩) := hide (fun r2 l2 c2 k2 p2 h e => by
    injection e with _ _ _ g1 g2 g3 g4 g5
    rcases h with h | h | h | h | h
    · exact h g1
    · exact h g2
    · exact h g3
    · exact h g4
    · exact h g5)
  generalize (⟨n1.toArray⟩ : ByteArray) = S1
  generalize ps1.length = t1 at *
  generalize ps2.length = t2 at *
  go_enter Tryd.func66, Tryd.ntmps66
  go_wp2_with fail
  refine (HP.out _ (HB00.out _ _)).mono ?_
  rintro e w1 ⟨⟨b, rfl, hb⟩, hb1⟩
  obtain ⟨B1, B2, hB⟩ := box_two hb1
  have hs1 := hb1.size
  simp at hs1
  have p4 : w1.cell? ⟨w.heap.size, 4, none⟩ = some (.int .i64 kr1) := B1 4
  have p5 : w1.cell? ⟨w.heap.size, 5, none⟩ = some (.string ⟨nr1.toArray⟩) := B1 5
  have p6 : w1.cell? ⟨w.heap.size, 6, none⟩ = some (.int .i64 lo1) := B1 6
  have p7 : w1.cell? ⟨w.heap.size, 7, none⟩ = some (.slice ca m1 cc) := B1 7
  have p8 : w1.cell? ⟨w.heap.size, 8, none⟩ = some (.slice ka j1 kc) := B1 8
  have q4 : w1.cell? ⟨w.heap.size + 1, 4, none⟩ = some (.int .i64 kr2) := B2 4
  have q5 : w1.cell? ⟨w.heap.size + 1, 5, none⟩ = some (.string ⟨nr2.toArray⟩) := B2 5
  have q6 : w1.cell? ⟨w.heap.size + 1, 6, none⟩ = some (.int .i64 lo2) := B2 6
  have q7 : w1.cell? ⟨w.heap.size + 1, 7, none⟩ = some (.slice da m2 dc) := B2 7
  have q8 : w1.cell? ⟨w.heap.size + 1, 8, none⟩ = some (.slice ea j2 ec) := B2 8
  have HB1 := hide hB
  clear B1 B2 hb1 HP HB00 hB
  cases b with
  | false =>
    have HN := hide (HNE.out ⟨kr2, nr2⟩ lo2 co2 ca2 ps2 (.inl (fun e => by have := hb.2 e; cases this)))
    go_wp2_with fail
    go_ret
    exact ⟨Eq.no HN.out, HB1.out⟩
  | true =>
    have hps := hb.1 rfl
    subst hps
    clear hb
    by_cases f1 : kr1 = kr2
    case neg =>
      have HN := hide (HNE.out ⟨kr2, nr2⟩ lo2 co2 ca2 ps1 (.inr (.inl (fun e => f1 (congrArg Pp.Ty.kind e)))))
      have f1' : (kr1 == kr2) = false := by simpa using f1
      go_wp2_with fail
      go_ret
      exact ⟨Eq.no HN.out, HB1.out⟩
    subst f1
    by_cases f2 : nr1 = nr2
    case neg =>
      have HN := hide (HNE.out ⟨kr1, nr2⟩ lo2 co2 ca2 ps1 (.inr (.inl (fun e => f2 (congrArg Pp.Ty.name e)))))
      have f2' : (nr1 == nr2) = false := by simpa using f2
      go_wp2_with fail
      go_ret
      exact ⟨Eq.no HN.out, HB1.out⟩
    subst f2
    generalize (⟨nr1.toArray⟩ : ByteArray) = S2 at *
    by_cases f3 : lo1 = lo2
    case neg =>
      have HN := hide (HNE.out ⟨kr1, nr1⟩ lo2 co2 ca2 ps1 (.inr (.inr (.inl f3))))
      have f3' : (lo1 == lo2) = false := by simpa using f3
      go_wp2_with fail
      go_ret
      exact ⟨Eq.no HN.out, HB1.out⟩
    subst f3
    by_cases f4 : m1 = m2
    case neg =>
      have HN := hide (HNE.out ⟨kr1, nr1⟩ lo1 co2 ca2 ps1 (.inr (.inr (.inr (.inl (fun e => f4 (by rw [HM1.out, HM2.out, e])))))))
      have f4' : ((m1 : Int) == (m2 : Int)) = false := by simp; omega
      go_wp2_with fail
      go_ret
      exact ⟨Eq.no HN.out, HB1.out⟩
    subst f4
    by_cases f5 : j1 = j2
    case neg =>
      have HN := hide (HNE.out ⟨kr1, nr1⟩ lo1 co2 ca2 ps1 (.inr (.inr (.inr (.inr (fun e => f5 (by rw [HJ1.out, HJ2.out, e])))))))
      have f5' : ((j1 : Int) == (j2 : Int)) = false := by simp; omega
      go_wp2_with fail
      go_ret
      exact ⟨Eq.no HN.out, HB1.out⟩
    subst f5
    go_wp2_with fail
    clear p4 p5 p6 q4 q5 q6
    go_loopw [5] (fun i wr => ∃ k : Nat, k ≤ m1 ∧ i = .int .i64 k ∧ Below w1.heap.size w1 wr ∧ Hid (co1.take k = co2.take k)) (fun i _ => m1 - (intOf i).toNat)
    case atStart => exact ⟨0, Nat.zero_le _, rfl, Below.refl _ _, rfl⟩
    case round =>
      obtain ⟨kA, hkA, rfl, hbA, HTA⟩ := hrel
      have HWA := hide (HB1.out.trans (hbA.mono HB1.out.size))
      have cA := (hbA.cell (p := ⟨w.heap.size, 7, none⟩) (by show w.heap.size < _; omega)).trans p7
      have dA := (hbA.cell (p := ⟨w.heap.size + 1, 7, none⟩) (by show w.heap.size + 1 < _; omega)).trans q7
      have eA := (hbA.cell (p := ⟨w.heap.size, 8, none⟩) (by show w.heap.size < _; omega)).trans p8
      have fA := (hbA.cell (p := ⟨w.heap.size + 1, 8, none⟩) (by show w.heap.size + 1 < _; omega)).trans q8
      by_cases hltA : kA < m1
      · obtain ⟨x, hx⟩ : ∃ x, co1[kA]? = some x := ⟨co1[kA]'(by rw [← HM1.out]; exact hltA), List.getElem?_eq_getElem _⟩
        obtain ⟨y, hy⟩ : ∃ y, co2[kA]? = some y := ⟨co2[kA]'(by rw [← HM2.out]; exact hltA), List.getElem?_eq_getElem _⟩
        obtain ⟨g1, o1, rfl, ys1, w1', hc1⟩ := Eq.row_at HI1.out hx
        obtain ⟨g2, o2, rfl, ys2, w2', hc2⟩ := Eq.row_at HI2.out hy
        obtain rfl : ys1 = _ := w1'.1
        obtain rfl : ys2 = _ := w2'.1
        have r0 := hc1 wr HWA.out 0 _ rfl
        have s0 := hc2 wr HWA.out 0 _ rfl
        have r1 := hc1 wr HWA.out 1 _ rfl
        have s1 := hc2 wr HWA.out 1 _ rfl
        have r2 := hc1 wr HWA.out 2 _ rfl
        have s2 := hc2 wr HWA.out 2 _ rfl
        have r3 := hc1 wr HWA.out 3 _ rfl
        have s3 := hc2 wr HWA.out 3 _ rfl
        rw [Nat.add_zero] at r0 s0
        have HX := hide hx
        have HY := hide hy
        clear hc1 hc2 hx hy w1' w2'
        have hltA' : (kA : Int) < (m1 : Int) := by omega
        obtain ⟨xo, xn, xa, xb⟩ := x
        obtain ⟨yo, yn, ya, yb⟩ := y
        simp only at r0 r1 r2 r3 s0 s1 s2 s3
        by_cases u : xo = yo
        case neg =>
          have HN := hide (HNE.out ⟨kr1, nr1⟩ lo1 co2 ca2 ps1 (.inr (.inr (.inr (.inl (Eq.ne_at HX.out HY.out (fun e => u (congrArg Pp.XIns.op e))))))))
          have u' : (xo == yo) = false := by simpa using u
          go_wp2_with fail
          go_quiet (fail)
          go_wp2_with fail
          go_ret
          exact ⟨Eq.no HN.out, by first | exact HWA.out | exact below_drewN HWA.out _⟩
        subst u
        by_cases u : xn = yn
        case neg =>
          have HN := hide (HNE.out ⟨kr1, nr1⟩ lo1 co2 ca2 ps1 (.inr (.inr (.inr (.inl (Eq.ne_at HX.out HY.out (fun e => u (congrArg Pp.XIns.n e))))))))
          have u' : (xn == yn) = false := by simpa using u
          go_wp2_with fail
          go_quiet (fail)
          go_wp2_with fail
          go_ret
          exact ⟨Eq.no HN.out, by first | exact HWA.out | exact below_drewN HWA.out _⟩
        subst u
        by_cases u : xa = ya
        case neg =>
          have HN := hide (HNE.out ⟨kr1, nr1⟩ lo1 co2 ca2 ps1 (.inr (.inr (.inr (.inl (Eq.ne_at HX.out HY.out (fun e => u (congrArg Pp.XIns.a e))))))))
          have u' : (xa == ya) = false := by simpa using u
          go_wp2_with fail
          go_quiet (fail)
          go_wp2_with fail
          go_ret
          exact ⟨Eq.no HN.out, by first | exact HWA.out | exact below_drewN HWA.out _⟩
        subst u
        by_cases u : xb = yb
        case neg =>
          have HN := hide (HNE.out ⟨kr1, nr1⟩ lo1 co2 ca2 ps1 (.inr (.inr (.inr (.inl (Eq.ne_at HX.out HY.out (fun e => u (congrArg Pp.XIns.b e))))))))
          have u' : (xb == yb) = false := by simpa using u
          go_wp2_with fail
          go_quiet (fail)
          go_wp2_with fail
          go_ret
          exact ⟨Eq.no HN.out, by first | exact HWA.out | exact below_drewN HWA.out _⟩
        subst u
        have HS := hide (Eq.take_step HTA.out HX.out HY.out)
        go_wp2_with fail
        go_quiet (fail)
        go_wp2_with fail
        go_roundw
        case rel => exact ⟨kA + 1, by omega, by go_num, by first | exact hbA | exact below_drewN hbA _, HS⟩
        case measure => simp [intOf]; omega
      · have HEA := hide (Eq.take_end HTA.out (by rw [← HM1.out]; omega) (by rw [← HM2.out]; omega))
        have hsA := hbA.size
        obtain ⟨wA, rfl⟩ : ∃ wA : World, wA = wr := ⟨_, rfl⟩
        go_wp2_with fail
        clear cA dA p7 q7 p8 q8 hkA hltA HTA hbA
        go_loopw [6] (fun i wr => ∃ k : Nat, k ≤ j1 ∧ i = .int .i64 k ∧ Below wA.heap.size wA wr ∧ Hid (ca1.take k = ca2.take k)) (fun i _ => j1 - (intOf i).toNat)
        case atStart => exact ⟨0, Nat.zero_le _, rfl, Below.refl _ _, rfl⟩
        case round =>
          obtain ⟨kB, hkB, rfl, hbB, HTB⟩ := hrel
          have HWB := hide (HWA.out.trans (hbB.mono HWA.out.size))
          have cB := (hbB.cell (p := ⟨w.heap.size, 8, none⟩) (by show w.heap.size < _; omega)).trans eA
          have dB := (hbB.cell (p := ⟨w.heap.size + 1, 8, none⟩) (by show w.heap.size + 1 < _; omega)).trans fA
          by_cases hltB : kB < j1
          · obtain ⟨x, hx⟩ : ∃ x, ca1[kB]? = some x := ⟨ca1[kB]'(by rw [← HJ1.out]; exact hltB), List.getElem?_eq_getElem _⟩
            obtain ⟨y, hy⟩ : ∃ y, ca2[kB]? = some y := ⟨ca2[kB]'(by rw [← HJ2.out]; exact hltB), List.getElem?_eq_getElem _⟩
            obtain ⟨g1, o1, rfl, ys1, w1', hc1⟩ := Eq.row_at HK1.out hx
            obtain ⟨g2, o2, rfl, ys2, w2', hc2⟩ := Eq.row_at HK2.out hy
            obtain rfl : ys1 = _ := w1'.1
            obtain rfl : ys2 = _ := w2'.1
            have r0 := hc1 wr HWB.out 0 _ rfl
            have s0 := hc2 wr HWB.out 0 _ rfl
            have r1 := hc1 wr HWB.out 1 _ rfl
            have s1 := hc2 wr HWB.out 1 _ rfl
            have r2 := hc1 wr HWB.out 2 _ rfl
            have s2 := hc2 wr HWB.out 2 _ rfl
            have r3 := hc1 wr HWB.out 3 _ rfl
            have s3 := hc2 wr HWB.out 3 _ rfl
            rw [Nat.add_zero] at r0 s0
            have HX := hide hx
            have HY := hide hy
            clear hc1 hc2 hx hy w1' w2'
            have hltB' : (kB : Int) < (j1 : Int) := by omega
            obtain ⟨xo, xn, xa, xb⟩ := x
            obtain ⟨yo, yn, ya, yb⟩ := y
            simp only at r0 r1 r2 r3 s0 s1 s2 s3
            by_cases u : xo = yo
            case neg =>
              have HN := hide (HNE.out ⟨kr1, nr1⟩ lo1 co2 ca2 ps1 (.inr (.inr (.inr (.inr (Eq.ne_at HX.out HY.out (fun e => u (congrArg Pp.Ctc.name e))))))))
              have u' : (xo == yo) = false := by simpa using u
              go_wp2_with fail
              go_quiet (fail)
              go_wp2_with fail
              go_ret
              exact ⟨Eq.no HN.out, by first | exact HWB.out | exact below_drewN HWB.out _⟩
            subst u
            by_cases u : xn = yn
            case neg =>
              have HN := hide (HNE.out ⟨kr1, nr1⟩ lo1 co2 ca2 ps1 (.inr (.inr (.inr (.inr (Eq.ne_at HX.out HY.out (fun e => u (congrArg Pp.Ctc.lo e))))))))
              have u' : (xn == yn) = false := by simpa using u
              go_wp2_with fail
              go_quiet (fail)
              go_wp2_with fail
              go_ret
              exact ⟨Eq.no HN.out, by first | exact HWB.out | exact below_drewN HWB.out _⟩
            subst u
            by_cases u : xa = ya
            case neg =>
              have HN := hide (HNE.out ⟨kr1, nr1⟩ lo1 co2 ca2 ps1 (.inr (.inr (.inr (.inr (Eq.ne_at HX.out HY.out (fun e => u (congrArg Pp.Ctc.hi e))))))))
              have u' : (xa == ya) = false := by simpa using u
              go_wp2_with fail
              go_quiet (fail)
              go_wp2_with fail
              go_ret
              exact ⟨Eq.no HN.out, by first | exact HWB.out | exact below_drewN HWB.out _⟩
            subst u
            by_cases u : xb = yb
            case neg =>
              have HN := hide (HNE.out ⟨kr1, nr1⟩ lo1 co2 ca2 ps1 (.inr (.inr (.inr (.inr (Eq.ne_at HX.out HY.out (fun e => u (congrArg Pp.Ctc.pc e))))))))
              have u' : (xb == yb) = false := by simpa using u
              go_wp2_with fail
              go_quiet (fail)
              go_wp2_with fail
              go_ret
              exact ⟨Eq.no HN.out, by first | exact HWB.out | exact below_drewN HWB.out _⟩
            subst u
            have HS := hide (Eq.take_step HTB.out HX.out HY.out)
            go_wp2_with fail
            go_quiet (fail)
            go_wp2_with fail
            go_roundw
            case rel => exact ⟨kB + 1, by omega, by go_num, by first | exact hbB | exact below_drewN hbB _, HS⟩
            case measure => simp [intOf]; omega
          · have HEB := hide (Eq.take_end HTB.out (by rw [← HJ1.out]; omega) (by rw [← HJ2.out]; omega))
            have HY : Hid ((⟨n1, st1, ab1, ps1, ⟨kr1, nr1⟩, lo1, co1, ca1⟩ : Pp.XMth) = ⟨n1, st1, ab1, ps1, ⟨kr1, nr1⟩, lo1, co2, ca2⟩) := hide (by rw [HEA.out, HEB.out])
            go_wp2_with fail
            go_ret
            exact ⟨Eq.yes HY.out, HWB.out⟩

end Go.Proofs.YtdgfidaopkcjoaaDoor

/- Programs in memory, as they are read: whatever block they lie in. What Types and Strings answer of two rows that are alike. What Method answers of two methods that are alike. What Class answers of two classes that are alike. -/
import Derived.Test.YtdgfidaopkcjoaaGreatDoorMgA
import Derived.Test.YtdgfidaopkcjoaaGreatDoorMgF
import Derived.BigQuiet
import Derived.Deep.QuietTactic
import Derived.Test.YtdgfidaopkcjoaaGreatDoorKeptOp
import Derived.Deep.RegionWith
namespace Go.Proofs.YtdgfidaopkcjoaaGreatDoor
open Go.RowKit
set_option linter.unusedVariables false
set_option linter.unusedSimpArgs false

def RowP {α : Type} (w : World) (sz : Nat) (P : α → List Value → Prop) (v : Value) (l : List α) : Prop :=
  ∃ a c, v = .slice a l.length c ∧ l.length ≤ c ∧ (l = [] ∨ ∃ b o, a = some ⟨b, o, none⟩ ∧ b < w.heap.size ∧ ∀ (k : Nat) (x : α), l[k]? = some x → ∃ ys, P x ys ∧ ∀ (j : Nat) (u : Value), ys[j]? = some u → w.cell? ⟨b, o + k * sz + j, none⟩ = some u)
theorem RowP.on {α : Type} {w w' : World} {sz : Nat} {P P' : α → List Value → Prop} {v : Value} {l : List α} (h : RowP w sz P v l) (hb : Below w.heap.size w w') (hp : ∀ x ys, P x ys → P' x ys) : RowP w' sz P' v l := by
  obtain ⟨a, c, rfl, hc, h⟩ := h
  refine ⟨a, c, rfl, hc, ?_⟩
  rcases h with h | ⟨b, o, rfl, hlt, hx⟩
  · exact .inl h
  · refine .inr ⟨b, o, rfl, Nat.lt_of_lt_of_le hlt hb.size, fun k x hk => ?_⟩
    obtain ⟨ys, h1, h2⟩ := hx k x hk
    exact ⟨ys, hp x ys h1, fun j u hj => (hb.cell (by exact hlt)).trans (h2 j u hj)⟩
def StrP (s : Pp.Bs) (ys : List Value) : Prop := ys = [.string ⟨s.toArray⟩]
def TyP (t : Pp.Ty) (ys : List Value) : Prop := ys = [.int .i64 t.kind, .string ⟨t.name.toArray⟩]
def FldP (f : Pp.Fld) (ys : List Value) : Prop := ys = [.string ⟨f.name.toArray⟩, .int .i64 f.ty.kind, .string ⟨f.ty.name.toArray⟩, .bool f.stat]
def InsP (x : Pp.Ins) (ys : List Value) : Prop := ys = [.int .i64 (x.op : Int), .int .i64 x.n, .string ⟨x.a.toArray⟩, .string ⟨x.b.toArray⟩]
def CtcP (c : Pp.Ctc) (ys : List Value) : Prop := ys = [.string ⟨c.name.toArray⟩, .int .i64 c.lo, .int .i64 c.hi, .int .i64 c.pc]
def mthL (m : Pp.Mth) (vp vc vk : Value) : List Value := [.string ⟨m.name.toArray⟩, .bool m.stat, .bool m.abst, vp, .int .i64 m.ret.kind, .string ⟨m.ret.name.toArray⟩, .int .i64 m.locals, vc, vk]
def MthP (w : World) (m : Pp.Mth) (ys : List Value) : Prop := ∃ vp vc vk, ys = mthL m vp vc vk ∧ RowP w 2 TyP vp m.params ∧ RowP w 4 InsP vc m.code ∧ RowP w 4 CtcP vk m.catches
def clsL (c : Pp.Cls) (vi vf vm : Value) : List Value := [.string ⟨c.name.toArray⟩, .bool c.iface, .string ⟨c.super.toArray⟩, vi, vf, vm]
def ClsP (w : World) (c : Pp.Cls) (ys : List Value) : Prop := ∃ vi vf vm, ys = clsL c vi vf vm ∧ RowP w 1 StrP vi c.ifaces ∧ RowP w 4 FldP vf c.fields ∧ RowP w 9 (MthP w) vm c.methods
def ProgP (w : World) (v : Value) (cs : List Pp.Cls) : Prop := RowP w 6 (ClsP w) v cs
theorem MthP.on {w w' : World} {m : Pp.Mth} {ys : List Value} (h : MthP w m ys) (hb : Below w.heap.size w w') : MthP w' m ys := by
  obtain ⟨vp, vc, vk, rfl, h1, h2, h3⟩ := h
  exact ⟨vp, vc, vk, rfl, h1.on hb fun _ _ h => h, h2.on hb fun _ _ h => h, h3.on hb fun _ _ h => h⟩
theorem ClsP.on {w w' : World} {c : Pp.Cls} {ys : List Value} (h : ClsP w c ys) (hb : Below w.heap.size w w') : ClsP w' c ys := by
  obtain ⟨vi, vf, vm, rfl, h1, h2, h3⟩ := h
  exact ⟨vi, vf, vm, rfl, h1.on hb fun _ _ h => h, h2.on hb fun _ _ h => h, h3.on hb fun _ _ h => h.on hb⟩
theorem ProgP.on {w w' : World} {v : Value} {cs : List Pp.Cls} (h : ProgP w v cs) (hb : Below w.heap.size w w') : ProgP w' v cs := RowP.on h hb fun _ _ h => h.on hb
theorem RowP.len {α : Type} {w : World} {sz : Nat} {P : α → List Value → Prop} {v : Value} {l : List α} (h : RowP w sz P v l) : ∃ a c, v = .slice a l.length c ∧ l.length ≤ c := by
  obtain ⟨a, c, h1, h2, _⟩ := h; exact ⟨a, c, h1, h2⟩
/-- Its first items. -/
theorem RowP.take {α : Type} {w : World} {sz : Nat} {P : α → List Value → Prop} {a : Option Addr} {n c : Nat} {l : List α} (h : RowP w sz P (.slice a n c) l) (k : Nat) (hk : k ≤ l.length) : RowP w sz P (.slice a k c) (l.take k) := by
  obtain ⟨a', c', hv, hc, h⟩ := h
  injection hv with h1 h2 h3
  subst h1; subst h3
  refine ⟨a, c, by rw [List.length_take, Nat.min_eq_left hk], by rw [List.length_take]; omega, ?_⟩
  rcases h with h | ⟨b, o, rfl, hlt, hx⟩
  · subst h; exact .inl (by simp)
  · refine .inr ⟨b, o, rfl, hlt, fun j x hj => hx j x ?_⟩
    rw [List.getElem?_take] at hj
    split at hj
    · exact hj
    · cases hj

theorem cell_box {w : World} {b : Nat} {c : Array Value} {t : TypeId} {f : Nat × Nat} (h : w.heap[b]? = some (.cells c t f)) (k : Nat) : w.cell? ⟨b, k, none⟩ = c[k]? := cell_of_row w b k c t f h
/-- Two blocks that a call has made of its arguments stay as they are. -/
theorem box_two {w w' : World} {c1 c2 : Array Value} {t1 t2 : TypeId} (hb : Below ((w.alloc (.cells c1 t1)).alloc (.cells c2 t2)).heap.size ((w.alloc (.cells c1 t1)).alloc (.cells c2 t2)) w') :
    (∀ k, w'.cell? ⟨w.heap.size, k, none⟩ = c1[k]?) ∧ (∀ k, w'.cell? ⟨w.heap.size + 1, k, none⟩ = c2[k]?) ∧ Below w.heap.size w w' := by
  refine ⟨fun k => ?_, fun k => ?_, ?_⟩
  · refine cell_box (t := t1) (f := (0, 0)) ?_ k
    rw [hb.block w.heap.size (by simp; omega), Below.heap_alloc _ _ _ (by simp)]
    exact heap_alloc_new w _
  · refine cell_box (t := t2) (f := (0, 0)) ?_ k
    rw [hb.block (w.heap.size + 1) (by simp)]
    have := heap_alloc_new (w.alloc (.cells c1 t1)) (.cells c2 t2)
    simpa using this
  · exact (((Below.refl _ _).alloc (Nat.le_refl _) _).alloc (by simp) _).trans (hb.mono (by simp; omega))

end Go.Proofs.YtdgfidaopkcjoaaGreatDoor

namespace Go.Proofs.YtdgfidaopkcjoaaGreatDoor
open Go.RowKit
set_option linter.unusedVariables false
set_option linter.unusedSimpArgs false

set_option maxRecDepth 100000 in
set_option maxHeartbeats 2000000 in
theorem Types_same (l : List Pp.Ty) (v1 v2 : Value) (w : World) (hn : l.length ≤ 100000) (h1 : RowP w 2 TyP v1 l) (h2 : RowP w 2 TyP v2 l) :
    Calls Tryz.prog 77 #[v1, v2] w fun e w' => e = .returned (.bool true) ∧ Below w.heap.size w w' := by
  obtain ⟨a1, c1, rfl, _, h1⟩ := h1
  obtain ⟨a2, c2, rfl, _, h2⟩ := h2
  have hemp : l = [] → Calls Tryz.prog 77 #[.slice a1 l.length c1, .slice a2 l.length c2] w fun e w' => e = .returned (.bool true) ∧ Below w.heap.size w w' := fun h => by
    subst h
    go_enter Tryz.func77, Tryz.ntmps77
    go_wp2
    refine wp_loop_rounds 1 ?_
    rw [rounds_succ]
    go_wp2
    go_ret
    exact ⟨rfl, Below.refl _ _⟩
  rcases h1 with h1 | ⟨b1, o1, rfl, hb1, hc1⟩
  · exact hemp h1
  rcases h2 with h2 | ⟨b2, o2, rfl, hb2, hc2⟩
  · exact hemp h2
  clear hemp
  have H1 := hide hc1
  have H2 := hide hc2
  clear hc1 hc2
  obtain ⟨len, hlen⟩ : ∃ len, len = l.length := ⟨_, rfl⟩
  have HL : Hid (len = l.length) := hlen
  rw [← hlen] at hn ⊢
  clear hlen
  go_enter Tryz.func77, Tryz.ntmps77
  go_wp2
  go_loopw [5] (fun i wr => ∃ k : Nat, k ≤ len ∧ i = .int .i64 k ∧ Below w.heap.size w wr) (fun i _ => len - (intOf i).toNat)
  case atStart => exact ⟨0, Nat.zero_le _, rfl, Below.refl _ _⟩
  case round =>
    obtain ⟨k, hk, rfl, hbel⟩ := hrel
    by_cases hlt : k < len
    · obtain ⟨t, ht⟩ : ∃ t, l[k]? = some t := ⟨l[k]'(by rw [← HL.out]; exact hlt), List.getElem?_eq_getElem _⟩
      obtain ⟨ys1, e1, g1⟩ := H1.out k t ht
      obtain ⟨ys2, e2, g2⟩ := H2.out k t ht
      obtain rfl : ys1 = _ := e1
      obtain rfl : ys2 = _ := e2
      have p0 := g1 0 _ rfl
      have p1 := g1 1 _ rfl
      have q0 := g2 0 _ rfl
      have q1 := g2 1 _ rfl
      rw [← hbel.cell (by exact hb1)] at p0 p1
      rw [← hbel.cell (by exact hb2)] at q0 q1
      rw [Nat.add_zero] at p0 q0
      clear ht g1 g2
      generalize t.kind = d0 at *
      generalize (⟨t.name.toArray⟩ : ByteArray) = d1 at *
      have hlt' : (k : Int) < (len : Int) := by omega
      go_wp2_with fail
      go_quiet (fail)
      go_wp2_with fail
      go_roundw
      case rel => exact ⟨k + 1, by omega, by go_num, by first | exact hbel | exact below_drewN hbel _⟩
      case measure => simp [intOf]; omega
    · go_wp2_with fail
      go_ret
      exact ⟨rfl, hbel⟩

set_option maxRecDepth 100000 in
set_option maxHeartbeats 2000000 in
theorem Strings_same (l : List Pp.Bs) (v1 v2 : Value) (w : World) (hn : l.length ≤ 100000) (h1 : RowP w 1 StrP v1 l) (h2 : RowP w 1 StrP v2 l) :
    Calls Tryz.prog 60 #[v1, v2] w fun e w' => e = .returned (.bool true) ∧ Below w.heap.size w w' := by
  obtain ⟨a1, c1, rfl, _, h1⟩ := h1
  obtain ⟨a2, c2, rfl, _, h2⟩ := h2
  have hemp : l = [] → Calls Tryz.prog 60 #[.slice a1 l.length c1, .slice a2 l.length c2] w fun e w' => e = .returned (.bool true) ∧ Below w.heap.size w w' := fun h => by
    subst h
    go_enter Tryz.func60, Tryz.ntmps60
    go_wp2
    refine wp_loop_rounds 1 ?_
    rw [rounds_succ]
    go_wp2
    go_ret
    exact ⟨rfl, Below.refl _ _⟩
  rcases h1 with h1 | ⟨b1, o1, rfl, hb1, hc1⟩
  · exact hemp h1
  rcases h2 with h2 | ⟨b2, o2, rfl, hb2, hc2⟩
  · exact hemp h2
  clear hemp
  have H1 := hide hc1
  have H2 := hide hc2
  clear hc1 hc2
  obtain ⟨len, hlen⟩ : ∃ len, len = l.length := ⟨_, rfl⟩
  have HL : Hid (len = l.length) := hlen
  rw [← hlen] at hn ⊢
  clear hlen
  go_enter Tryz.func60, Tryz.ntmps60
  go_wp2
  go_loopw [5] (fun i wr => ∃ k : Nat, k ≤ len ∧ i = .int .i64 k ∧ Below w.heap.size w wr) (fun i _ => len - (intOf i).toNat)
  case atStart => exact ⟨0, Nat.zero_le _, rfl, Below.refl _ _⟩
  case round =>
    obtain ⟨k, hk, rfl, hbel⟩ := hrel
    by_cases hlt : k < len
    · obtain ⟨t, ht⟩ : ∃ t, l[k]? = some t := ⟨l[k]'(by rw [← HL.out]; exact hlt), List.getElem?_eq_getElem _⟩
      obtain ⟨ys1, e1, g1⟩ := H1.out k t ht
      obtain ⟨ys2, e2, g2⟩ := H2.out k t ht
      obtain rfl : ys1 = _ := e1
      obtain rfl : ys2 = _ := e2
      have p0 := g1 0 _ rfl
      have q0 := g2 0 _ rfl
      rw [← hbel.cell (by exact hb1)] at p0
      rw [← hbel.cell (by exact hb2)] at q0
      rw [Nat.add_zero, Nat.mul_one] at p0 q0
      clear ht g1 g2
      generalize (⟨t.toArray⟩ : ByteArray) = d1 at *
      have hlt' : (k : Int) < (len : Int) := by omega
      go_wp2_with fail
      go_quiet (fail)
      go_wp2_with fail
      go_roundw
      case rel => exact ⟨k + 1, by omega, by go_num, by first | exact hbel | exact below_drewN hbel _⟩
      case measure => simp [intOf]; omega
    · go_wp2_with fail
      go_ret
      exact ⟨rfl, hbel⟩

end Go.Proofs.YtdgfidaopkcjoaaGreatDoor

namespace Go.Proofs.YtdgfidaopkcjoaaGreatDoor
open Go.RowKit
set_option linter.unusedVariables false
set_option linter.unusedSimpArgs false

set_option maxRecDepth 100000 in
set_option maxHeartbeats 8000000 in
theorem Method_same (m : Pp.Mth) (ys1 ys2 : List Value) (w : World) (hp : m.params.length ≤ 100000) (hn : m.code.length ≤ 100000) (hk : m.catches.length ≤ 100000) (h1 : MthP w m ys1) (h2 : MthP w m ys2) :
    Calls Tryz.prog 61 #[.agg ys1.toArray, .agg ys2.toArray] w fun e w' => e = .returned (.bool true) ∧ Below w.heap.size w w' := by
  obtain ⟨vp1, vc1, vk1, rfl, p1, i1, k1⟩ := h1
  obtain ⟨vp2, vc2, vk2, rfl, p2, i2, k2⟩ := h2
  obtain ⟨n, st, ab, ps, rt, lo, co, ca⟩ := m
  simp only at hp hn hk p1 p2 i1 i2 k1 k2
  have HP : Hid (∀ w', Below w.heap.size w w' → Calls Tryz.prog 77 #[vp1, vp2] w' fun e w'' => e = .returned (.bool true) ∧ Below w'.heap.size w' w'') := hide fun w' hb => Types_same ps vp1 vp2 w' hp (p1.on hb fun _ _ h => h) (p2.on hb fun _ _ h => h)
  obtain ⟨pa1, pc1, rfl, _⟩ := p1.len
  obtain ⟨pa2, pc2, rfl, _⟩ := p2.len
  clear p1 p2
  obtain ⟨a1, c1, rfl, _, i1⟩ := i1
  obtain ⟨a2, c2, rfl, _, i2⟩ := i2
  obtain ⟨d1, f1, rfl, _, k1⟩ := k1
  obtain ⟨d2, f2, rfl, _, k2⟩ := k2
  have I1 := hide i1
  have I2 := hide i2
  have K1 := hide k1
  have K2 := hide k2
  clear i1 i2 k1 k2
  obtain ⟨len, hlen⟩ : ∃ len, len = co.length := ⟨_, rfl⟩
  have HL : Hid (len = co.length) := hlen
  obtain ⟨len2, hlen2⟩ : ∃ len, len = ca.length := ⟨_, rfl⟩
  have HL2 : Hid (len2 = ca.length) := hlen2
  obtain ⟨np, hnp⟩ : ∃ len, len = ps.length := ⟨_, rfl⟩
  simp only [mthL, List.toArray]
  rw [← hlen] at hn ⊢
  rw [← hlen2] at hk ⊢
  rw [← hnp] at HP hp ⊢
  clear hlen hlen2 hnp
  generalize (⟨n.toArray⟩ : ByteArray) = x0
  generalize (⟨rt.name.toArray⟩ : ByteArray) = x1
  generalize rt.kind = x2
  go_enter Tryz.func61, Tryz.ntmps61
  go_wp2_with fail
  refine (HP.out _ (((Below.refl _ _).alloc (Nat.le_refl _) _).alloc (by simp) _)).mono ?_
  rintro e w1 ⟨rfl, hb1⟩
  have hsz := hb1.size
  simp at hsz
  obtain ⟨B1, B2, hB⟩ := box_two hb1
  have p4 : w1.cell? ⟨w.heap.size, 4, none⟩ = some (.int .i64 x2) := B1 4
  have p5 : w1.cell? ⟨w.heap.size, 5, none⟩ = some (.string x1) := B1 5
  have p6 : w1.cell? ⟨w.heap.size, 6, none⟩ = some (.int .i64 lo) := B1 6
  have p7 : w1.cell? ⟨w.heap.size, 7, none⟩ = some (.slice a1 len c1) := B1 7
  have p8 : w1.cell? ⟨w.heap.size, 8, none⟩ = some (.slice d1 len2 f1) := B1 8
  have q4 : w1.cell? ⟨w.heap.size + 1, 4, none⟩ = some (.int .i64 x2) := B2 4
  have q5 : w1.cell? ⟨w.heap.size + 1, 5, none⟩ = some (.string x1) := B2 5
  have q6 : w1.cell? ⟨w.heap.size + 1, 6, none⟩ = some (.int .i64 lo) := B2 6
  have q7 : w1.cell? ⟨w.heap.size + 1, 7, none⟩ = some (.slice a2 len c2) := B2 7
  have q8 : w1.cell? ⟨w.heap.size + 1, 8, none⟩ = some (.slice d2 len2 f2) := B2 8
  clear B1 B2 hb1 HP
  have HB := hide hB
  clear hB
  go_wp2_with fail
  clear p4 p5 p6 q4 q5 q6
  go_loopw [5] (fun i wr => ∃ k : Nat, k ≤ len ∧ i = .int .i64 k ∧ Below w1.heap.size w1 wr) (fun i _ => len - (intOf i).toNat)
  case atStart => exact ⟨0, Nat.zero_le _, rfl, Below.refl _ _⟩
  case round =>
    obtain ⟨k, hk, rfl, hbel⟩ := hrel
    have P7 := (hbel.cell (p := ⟨w.heap.size, 7, none⟩) (by show w.heap.size < _; omega)).trans p7
    have Q7 := (hbel.cell (p := ⟨w.heap.size + 1, 7, none⟩) (by show w.heap.size + 1 < _; omega)).trans q7
    have P8 := (hbel.cell (p := ⟨w.heap.size, 8, none⟩) (by show w.heap.size < _; omega)).trans p8
    have Q8 := (hbel.cell (p := ⟨w.heap.size + 1, 8, none⟩) (by show w.heap.size + 1 < _; omega)).trans q8
    clear p7 q7 p8 q8
    by_cases hlt : k < len
    · have hco : k < co.length := by rw [← HL.out]; exact hlt
      rcases I1.out with h0 | ⟨b1, o1, rfl, hb1, hc1⟩
      · rw [h0] at hco; simp at hco
      rcases I2.out with h0 | ⟨b2, o2, rfl, hb2, hc2⟩
      · rw [h0] at hco; simp at hco
      obtain ⟨t, ht⟩ : ∃ t, co[k]? = some t := ⟨co[k]'hco, List.getElem?_eq_getElem _⟩
      obtain ⟨ys1, e1, g1⟩ := hc1 k t ht
      obtain ⟨ys2, e2, g2⟩ := hc2 k t ht
      obtain rfl : ys1 = _ := e1
      obtain rfl : ys2 = _ := e2
      have hbw := HB.out.trans (hbel.mono HB.out.size)
      have r0 := (hbw.cell (by exact hb1)).trans (g1 0 _ rfl)
      have r1 := (hbw.cell (by exact hb1)).trans (g1 1 _ rfl)
      have r2 := (hbw.cell (by exact hb1)).trans (g1 2 _ rfl)
      have r3 := (hbw.cell (by exact hb1)).trans (g1 3 _ rfl)
      have s0 := (hbw.cell (by exact hb2)).trans (g2 0 _ rfl)
      have s1 := (hbw.cell (by exact hb2)).trans (g2 1 _ rfl)
      have s2 := (hbw.cell (by exact hb2)).trans (g2 2 _ rfl)
      have s3 := (hbw.cell (by exact hb2)).trans (g2 3 _ rfl)
      rw [Nat.add_zero] at r0 s0
      clear ht g1 g2 hc1 hc2 I1 I2 hco hbw
      generalize (t.op : Int) = y0 at *
      generalize t.n = y1 at *
      generalize (⟨t.a.toArray⟩ : ByteArray) = y2 at *
      generalize (⟨t.b.toArray⟩ : ByteArray) = y3 at *
      have hlt' : (k : Int) < (len : Int) := by omega
      go_wp2_with fail
      go_quiet (fail)
      go_wp2_with fail
      go_roundw
      case rel => exact ⟨k + 1, by omega, by go_num, by first | exact hbel | exact below_drewN hbel _⟩
      case measure => simp [intOf]; omega
    · go_wp2_with fail
      have HB2 := hide (HB.out.trans (hbel.mono HB.out.size))
      have hsz2 := hbel.size
      clear hbel HB I1 I2 P7 Q7
      obtain ⟨wa, hwa⟩ : ∃ wa, wa = wr := ⟨_, rfl⟩
      rw [← hwa] at HB2 hsz2 P8 Q8 ⊢
      clear hwa
      go_loopw [6] (fun i wx => ∃ k : Nat, k ≤ len2 ∧ i = .int .i64 k ∧ Below wa.heap.size wa wx) (fun i _ => len2 - (intOf i).toNat)
      case atStart => exact ⟨0, Nat.zero_le _, rfl, Below.refl _ _⟩
      case round =>
        obtain ⟨k, hk, rfl, hbel⟩ := hrel
        have P := (hbel.cell (p := ⟨w.heap.size, 8, none⟩) (by show w.heap.size < _; omega)).trans P8
        have Q := (hbel.cell (p := ⟨w.heap.size + 1, 8, none⟩) (by show w.heap.size + 1 < _; omega)).trans Q8
        clear P8 Q8
        by_cases hlt : k < len2
        · have hco : k < ca.length := by rw [← HL2.out]; exact hlt
          rcases K1.out with h0 | ⟨b1, o1, rfl, hb1, hc1⟩
          · rw [h0] at hco; simp at hco
          rcases K2.out with h0 | ⟨b2, o2, rfl, hb2, hc2⟩
          · rw [h0] at hco; simp at hco
          obtain ⟨t, ht⟩ : ∃ t, ca[k]? = some t := ⟨ca[k]'hco, List.getElem?_eq_getElem _⟩
          obtain ⟨ys1, e1, g1⟩ := hc1 k t ht
          obtain ⟨ys2, e2, g2⟩ := hc2 k t ht
          obtain rfl : ys1 = _ := e1
          obtain rfl : ys2 = _ := e2
          have hbw := HB2.out.trans (hbel.mono HB2.out.size)
          have r0 := (hbw.cell (by exact hb1)).trans (g1 0 _ rfl)
          have r1 := (hbw.cell (by exact hb1)).trans (g1 1 _ rfl)
          have r2 := (hbw.cell (by exact hb1)).trans (g1 2 _ rfl)
          have r3 := (hbw.cell (by exact hb1)).trans (g1 3 _ rfl)
          have s0 := (hbw.cell (by exact hb2)).trans (g2 0 _ rfl)
          have s1 := (hbw.cell (by exact hb2)).trans (g2 1 _ rfl)
          have s2 := (hbw.cell (by exact hb2)).trans (g2 2 _ rfl)
          have s3 := (hbw.cell (by exact hb2)).trans (g2 3 _ rfl)
          rw [Nat.add_zero] at r0 s0
          clear ht g1 g2 hc1 hc2 K1 K2 hco hbw
          generalize (⟨t.name.toArray⟩ : ByteArray) = y0 at *
          generalize t.lo = y1 at *
          generalize t.hi = y2 at *
          generalize t.pc = y3 at *
          have hlt' : (k : Int) < (len2 : Int) := by omega
          go_wp2_with fail
          go_quiet (fail)
          go_wp2_with fail
          go_roundw
          case rel => exact ⟨k + 1, by omega, by go_num, by first | exact hbel | exact below_drewN hbel _⟩
          case measure => simp [intOf]; omega
        · go_wp2_with fail
          go_ret
          exact ⟨rfl, HB2.out.trans (hbel.mono HB2.out.size)⟩

end Go.Proofs.YtdgfidaopkcjoaaGreatDoor

namespace Go.Proofs.YtdgfidaopkcjoaaGreatDoor
open Go.RowKit
set_option linter.unusedVariables false
set_option linter.unusedSimpArgs false

set_option maxRecDepth 100000 in
set_option maxHeartbeats 8000000 in
theorem Class_same (c : Pp.Cls) (ys1 ys2 : List Value) (w : World) (hp : c.ifaces.length ≤ 100000) (hn : c.fields.length ≤ 100000) (hk : c.methods.length ≤ 100000) (hm : ∀ m ∈ c.methods, m.params.length ≤ 100000 ∧ m.code.length ≤ 100000 ∧ m.catches.length ≤ 100000) (h1 : ClsP w c ys1) (h2 : ClsP w c ys2) :
    Calls Tryz.prog 40 #[.agg ys1.toArray, .agg ys2.toArray] w fun e w' => e = .returned (.bool true) ∧ Below w.heap.size w w' := by
  obtain ⟨vp1, vc1, vk1, rfl, p1, i1, k1⟩ := h1
  obtain ⟨vp2, vc2, vk2, rfl, p2, i2, k2⟩ := h2
  obtain ⟨n, st, su, ps, co, ca⟩ := c
  simp only at hp hn hk hm p1 p2 i1 i2 k1 k2
  have HM := hide hm
  clear hm
  have HP : Hid (∀ w', Below w.heap.size w w' → Calls Tryz.prog 60 #[vp1, vp2] w' fun e w'' => e = .returned (.bool true) ∧ Below w'.heap.size w' w'') := hide fun w' hb => Strings_same ps vp1 vp2 w' hp (p1.on hb fun _ _ h => h) (p2.on hb fun _ _ h => h)
  obtain ⟨pa1, pc1, rfl, _⟩ := p1.len
  obtain ⟨pa2, pc2, rfl, _⟩ := p2.len
  clear p1 p2
  obtain ⟨a1, c1, rfl, _, i1⟩ := i1
  obtain ⟨a2, c2, rfl, _, i2⟩ := i2
  obtain ⟨d1, f1, rfl, _, k1⟩ := k1
  obtain ⟨d2, f2, rfl, _, k2⟩ := k2
  have I1 := hide i1
  have I2 := hide i2
  have K1 := hide k1
  have K2 := hide k2
  clear i1 i2 k1 k2
  obtain ⟨len, hlen⟩ : ∃ len, len = co.length := ⟨_, rfl⟩
  have HL : Hid (len = co.length) := hlen
  obtain ⟨len2, hlen2⟩ : ∃ len, len = ca.length := ⟨_, rfl⟩
  have HL2 : Hid (len2 = ca.length) := hlen2
  obtain ⟨np, hnp⟩ : ∃ len, len = ps.length := ⟨_, rfl⟩
  simp only [clsL, List.toArray]
  rw [← hlen] at hn ⊢
  rw [← hlen2] at hk ⊢
  rw [← hnp] at HP hp ⊢
  clear hlen hlen2 hnp
  generalize (⟨n.toArray⟩ : ByteArray) = x0
  generalize (⟨su.toArray⟩ : ByteArray) = x1
  go_enter Tryz.func40, Tryz.ntmps40
  go_wp2_with fail
  refine (HP.out _ (((Below.refl _ _).alloc (Nat.le_refl _) _).alloc (by simp) _)).mono ?_
  rintro e w1 ⟨rfl, hb1⟩
  have hsz := hb1.size
  simp at hsz
  obtain ⟨B1, B2, hB⟩ := box_two hb1
  have p7 : w1.cell? ⟨w.heap.size, 4, none⟩ = some (.slice a1 len c1) := B1 4
  have p8 : w1.cell? ⟨w.heap.size, 5, none⟩ = some (.slice d1 len2 f1) := B1 5
  have q7 : w1.cell? ⟨w.heap.size + 1, 4, none⟩ = some (.slice a2 len c2) := B2 4
  have q8 : w1.cell? ⟨w.heap.size + 1, 5, none⟩ = some (.slice d2 len2 f2) := B2 5
  clear B1 B2 hb1 HP
  have HB := hide hB
  clear hB
  go_wp2_with fail
  go_loopw [5] (fun i wr => ∃ k : Nat, k ≤ len ∧ i = .int .i64 k ∧ Below w1.heap.size w1 wr) (fun i _ => len - (intOf i).toNat)
  case atStart => exact ⟨0, Nat.zero_le _, rfl, Below.refl _ _⟩
  case round =>
    obtain ⟨k, hk, rfl, hbel⟩ := hrel
    have P7 := (hbel.cell (p := ⟨w.heap.size, 4, none⟩) (by show w.heap.size < _; omega)).trans p7
    have Q7 := (hbel.cell (p := ⟨w.heap.size + 1, 4, none⟩) (by show w.heap.size + 1 < _; omega)).trans q7
    have P8 := (hbel.cell (p := ⟨w.heap.size, 5, none⟩) (by show w.heap.size < _; omega)).trans p8
    have Q8 := (hbel.cell (p := ⟨w.heap.size + 1, 5, none⟩) (by show w.heap.size + 1 < _; omega)).trans q8
    clear p7 q7 p8 q8
    by_cases hlt : k < len
    · have hco : k < co.length := by rw [← HL.out]; exact hlt
      rcases I1.out with h0 | ⟨b1, o1, rfl, hb1, hc1⟩
      · rw [h0] at hco; simp at hco
      rcases I2.out with h0 | ⟨b2, o2, rfl, hb2, hc2⟩
      · rw [h0] at hco; simp at hco
      obtain ⟨t, ht⟩ : ∃ t, co[k]? = some t := ⟨co[k]'hco, List.getElem?_eq_getElem _⟩
      obtain ⟨ys1, e1, g1⟩ := hc1 k t ht
      obtain ⟨ys2, e2, g2⟩ := hc2 k t ht
      obtain rfl : ys1 = _ := e1
      obtain rfl : ys2 = _ := e2
      have hbw := HB.out.trans (hbel.mono HB.out.size)
      have r0 := (hbw.cell (by exact hb1)).trans (g1 0 _ rfl)
      have r1 := (hbw.cell (by exact hb1)).trans (g1 1 _ rfl)
      have r2 := (hbw.cell (by exact hb1)).trans (g1 2 _ rfl)
      have r3 := (hbw.cell (by exact hb1)).trans (g1 3 _ rfl)
      have s0 := (hbw.cell (by exact hb2)).trans (g2 0 _ rfl)
      have s1 := (hbw.cell (by exact hb2)).trans (g2 1 _ rfl)
      have s2 := (hbw.cell (by exact hb2)).trans (g2 2 _ rfl)
      have s3 := (hbw.cell (by exact hb2)).trans (g2 3 _ rfl)
      rw [Nat.add_zero] at r0 s0
      clear ht g1 g2 hc1 hc2 I1 I2 hco hbw
      generalize (⟨t.name.toArray⟩ : ByteArray) = y0 at *
      generalize t.ty.kind = y1 at *
      generalize (⟨t.ty.name.toArray⟩ : ByteArray) = y2 at *
      generalize t.stat = y3 at *
      have hlt' : (k : Int) < (len : Int) := by omega
      go_wp2_with fail
      go_quiet (fail)
      go_wp2_with fail
      go_roundw
      case rel => exact ⟨k + 1, by omega, by go_num, by first | exact hbel | exact below_drewN hbel _⟩
      case measure => simp [intOf]; omega
    · go_wp2_with fail
      have HB2 := hide (HB.out.trans (hbel.mono HB.out.size))
      have hsz2 := hbel.size
      clear hbel HB I1 I2 P7 Q7
      obtain ⟨wa, hwa⟩ : ∃ wa, wa = wr := ⟨_, rfl⟩
      rw [← hwa] at HB2 hsz2 P8 Q8 ⊢
      clear hwa
      go_loopw [6] (fun i wx => ∃ k : Nat, k ≤ len2 ∧ i = .int .i64 k ∧ Below wa.heap.size wa wx) (fun i _ => len2 - (intOf i).toNat)
      case atStart => exact ⟨0, Nat.zero_le _, rfl, Below.refl _ _⟩
      case round =>
        obtain ⟨k, hk, rfl, hbel⟩ := hrel
        have P := (hbel.cell (p := ⟨w.heap.size, 5, none⟩) (by show w.heap.size < _; omega)).trans P8
        have Q := (hbel.cell (p := ⟨w.heap.size + 1, 5, none⟩) (by show w.heap.size + 1 < _; omega)).trans Q8
        clear P8 Q8
        by_cases hlt : k < len2
        · have hco : k < ca.length := by rw [← HL2.out]; exact hlt
          rcases K1.out with h0 | ⟨b1, o1, rfl, hb1, hc1⟩
          · rw [h0] at hco; simp at hco
          rcases K2.out with h0 | ⟨b2, o2, rfl, hb2, hc2⟩
          · rw [h0] at hco; simp at hco
          obtain ⟨t, ht⟩ : ∃ t, ca[k]? = some t := ⟨ca[k]'hco, List.getElem?_eq_getElem _⟩
          obtain ⟨ys1, e1, g1⟩ := hc1 k t ht
          obtain ⟨ys2, e2, g2⟩ := hc2 k t ht
          have hbw := HB2.out.trans (hbel.mono HB2.out.size)
          have hmt := HM.out t (List.mem_of_getElem? ht)
          have HC : Hid (∀ wx, Below wr.heap.size wr wx → Calls Tryz.prog 61 #[.agg ys1.toArray, .agg ys2.toArray] wx fun e w'' => e = .returned (.bool true) ∧ Below wx.heap.size wx w'') := hide fun wx hx => by
            have hb3 := hbw.trans (hx.mono hbw.size)
            exact Method_same t ys1 ys2 wx hmt.1 hmt.2.1 hmt.2.2 (e1.on hb3) (e2.on hb3)
          obtain ⟨vp1, vc1, vk1, rfl, x1, x2, x3⟩ := e1
          obtain ⟨vp2, vc2, vk2, rfl, x4, x5, x6⟩ := e2
          obtain ⟨_, _, rfl, _⟩ := x1.len
          obtain ⟨_, _, rfl, _⟩ := x2.len
          obtain ⟨_, _, rfl, _⟩ := x3.len
          obtain ⟨_, _, rfl, _⟩ := x4.len
          obtain ⟨_, _, rfl, _⟩ := x5.len
          obtain ⟨_, _, rfl, _⟩ := x6.len
          have r0 := (hbw.cell (by exact hb1)).trans (g1 0 _ rfl)
          have r1 := (hbw.cell (by exact hb1)).trans (g1 1 _ rfl)
          have r2 := (hbw.cell (by exact hb1)).trans (g1 2 _ rfl)
          have r3 := (hbw.cell (by exact hb1)).trans (g1 3 _ rfl)
          have r4 := (hbw.cell (by exact hb1)).trans (g1 4 _ rfl)
          have r5 := (hbw.cell (by exact hb1)).trans (g1 5 _ rfl)
          have r6 := (hbw.cell (by exact hb1)).trans (g1 6 _ rfl)
          have r7 := (hbw.cell (by exact hb1)).trans (g1 7 _ rfl)
          have r8 := (hbw.cell (by exact hb1)).trans (g1 8 _ rfl)
          have s0 := (hbw.cell (by exact hb2)).trans (g2 0 _ rfl)
          have s1 := (hbw.cell (by exact hb2)).trans (g2 1 _ rfl)
          have s2 := (hbw.cell (by exact hb2)).trans (g2 2 _ rfl)
          have s3 := (hbw.cell (by exact hb2)).trans (g2 3 _ rfl)
          have s4 := (hbw.cell (by exact hb2)).trans (g2 4 _ rfl)
          have s5 := (hbw.cell (by exact hb2)).trans (g2 5 _ rfl)
          have s6 := (hbw.cell (by exact hb2)).trans (g2 6 _ rfl)
          have s7 := (hbw.cell (by exact hb2)).trans (g2 7 _ rfl)
          have s8 := (hbw.cell (by exact hb2)).trans (g2 8 _ rfl)
          rw [Nat.add_zero] at r0 s0
          have HBW := hide hbw
          clear ht g1 g2 hc1 hc2 K1 K2 hco hbw hmt x1 x2 x3 x4 x5 x6
          simp only [mthL, List.toArray] at HC
          have hlt' : (k : Int) < (len2 : Int) := by omega
          have HBEL := hide hbel
          clear hbel
          go_wp2_with fail
          go_region_with (go_at_call 61; refine (HC.out _ (by first | exact Below.refl _ _ | exact below_drewN (Below.refl _ _) _ | exact Below.drew (Below.refl _ _))).mono ?_; rintro e w5 ⟨rfl, hb5⟩)
          all_goals (go_wp2_with fail; go_roundw)
          all_goals first | exact ⟨k + 1, by omega, by go_num, (below_drewN HBEL.out _).trans (hb5.mono HBEL.out.size)⟩ | exact ⟨k + 1, by omega, by go_num, HBEL.out.drew.trans (hb5.mono HBEL.out.size)⟩ | (simp [intOf]; omega)
        · go_wp2_with fail
          go_ret
          exact ⟨rfl, HB2.out.trans (hbel.mono HB2.out.size)⟩

set_option maxRecDepth 100000 in
set_option maxHeartbeats 8000000 in
theorem Classes_same (cs : List Pp.Cls) (v1 v2 : Value) (w : World) (hn : cs.length ≤ 100000) (hs : ∀ c ∈ cs, c.ifaces.length ≤ 100000 ∧ c.fields.length ≤ 100000 ∧ c.methods.length ≤ 100000 ∧ ∀ m ∈ c.methods, m.params.length ≤ 100000 ∧ m.code.length ≤ 100000 ∧ m.catches.length ≤ 100000) (h1 : ProgP w v1 cs) (h2 : ProgP w v2 cs) :
    Calls Tryz.prog 19 #[v1, v2] w fun e w' => e = .returned (.bool true) ∧ Below w.heap.size w w' := by
  obtain ⟨a1, c1, rfl, _, h1⟩ := h1
  obtain ⟨a2, c2, rfl, _, h2⟩ := h2
  have HS := hide hs
  clear hs
  have hemp : cs = [] → Calls Tryz.prog 19 #[.slice a1 cs.length c1, .slice a2 cs.length c2] w fun e w' => e = .returned (.bool true) ∧ Below w.heap.size w w' := fun h => by
    subst h
    go_enter Tryz.func19, Tryz.ntmps19
    go_wp2
    refine wp_loop_rounds 1 ?_
    rw [rounds_succ]
    go_wp2
    go_ret
    exact ⟨rfl, Below.refl _ _⟩
  rcases h1 with h1 | ⟨b1, o1, rfl, hb1, hc1⟩
  · exact hemp h1
  rcases h2 with h2 | ⟨b2, o2, rfl, hb2, hc2⟩
  · exact hemp h2
  clear hemp
  have H1 := hide hc1
  have H2 := hide hc2
  clear hc1 hc2
  obtain ⟨len, hlen⟩ : ∃ len, len = cs.length := ⟨_, rfl⟩
  have HL : Hid (len = cs.length) := hlen
  rw [← hlen] at hn ⊢
  clear hlen
  go_enter Tryz.func19, Tryz.ntmps19
  go_wp2
  go_loopw [5] (fun i wr => ∃ k : Nat, k ≤ len ∧ i = .int .i64 k ∧ Below w.heap.size w wr) (fun i _ => len - (intOf i).toNat)
  case atStart => exact ⟨0, Nat.zero_le _, rfl, Below.refl _ _⟩
  case round =>
    obtain ⟨k, hk, rfl, hbel⟩ := hrel
    by_cases hlt : k < len
    · obtain ⟨t, ht⟩ : ∃ t, cs[k]? = some t := ⟨cs[k]'(by rw [← HL.out]; exact hlt), List.getElem?_eq_getElem _⟩
      obtain ⟨ys1, e1, g1⟩ := H1.out k t ht
      obtain ⟨ys2, e2, g2⟩ := H2.out k t ht
      have hmt := HS.out t (List.mem_of_getElem? ht)
      have HC : Hid (∀ wx, Below wr.heap.size wr wx → Calls Tryz.prog 40 #[.agg ys1.toArray, .agg ys2.toArray] wx fun e w'' => e = .returned (.bool true) ∧ Below wx.heap.size wx w'') := hide fun wx hx => by
        have hb3 := hbel.trans (hx.mono hbel.size)
        exact Class_same t ys1 ys2 wx hmt.1 hmt.2.1 hmt.2.2.1 hmt.2.2.2 (e1.on hb3) (e2.on hb3)
      obtain ⟨vp1, vc1, vk1, rfl, x1, x2, x3⟩ := e1
      obtain ⟨vp2, vc2, vk2, rfl, x4, x5, x6⟩ := e2
      obtain ⟨_, _, rfl, _⟩ := x1.len
      obtain ⟨_, _, rfl, _⟩ := x2.len
      obtain ⟨_, _, rfl, _⟩ := x3.len
      obtain ⟨_, _, rfl, _⟩ := x4.len
      obtain ⟨_, _, rfl, _⟩ := x5.len
      obtain ⟨_, _, rfl, _⟩ := x6.len
      have r0 := (hbel.cell (by exact hb1)).trans (g1 0 _ rfl)
      have r1 := (hbel.cell (by exact hb1)).trans (g1 1 _ rfl)
      have r2 := (hbel.cell (by exact hb1)).trans (g1 2 _ rfl)
      have r3 := (hbel.cell (by exact hb1)).trans (g1 3 _ rfl)
      have r4 := (hbel.cell (by exact hb1)).trans (g1 4 _ rfl)
      have r5 := (hbel.cell (by exact hb1)).trans (g1 5 _ rfl)
      have s0 := (hbel.cell (by exact hb2)).trans (g2 0 _ rfl)
      have s1 := (hbel.cell (by exact hb2)).trans (g2 1 _ rfl)
      have s2 := (hbel.cell (by exact hb2)).trans (g2 2 _ rfl)
      have s3 := (hbel.cell (by exact hb2)).trans (g2 3 _ rfl)
      have s4 := (hbel.cell (by exact hb2)).trans (g2 4 _ rfl)
      have s5 := (hbel.cell (by exact hb2)).trans (g2 5 _ rfl)
      rw [Nat.add_zero] at r0 s0
      clear ht g1 g2 hmt x1 x2 x3 x4 x5 x6
      simp only [clsL, List.toArray] at HC
      have hlt' : (k : Int) < (len : Int) := by omega
      have HBEL := hide hbel
      clear hbel
      go_wp2_with fail
      go_region_with (go_at_call 40; refine (HC.out _ (by first | exact Below.refl _ _ | exact below_drewN (Below.refl _ _) _ | exact Below.drew (Below.refl _ _))).mono ?_; rintro e w5 ⟨rfl, hb5⟩)
      all_goals (go_wp2_with fail; go_roundw)
      all_goals first | exact ⟨k + 1, by omega, by go_num, (below_drewN HBEL.out _).trans (hb5.mono HBEL.out.size)⟩ | exact ⟨k + 1, by omega, by go_num, HBEL.out.drew.trans (hb5.mono HBEL.out.size)⟩ | (simp [intOf]; omega)
    · go_wp2_with fail
      go_ret
      exact ⟨rfl, hbel⟩

/-- No list of a program is longer than any that is read or played. -/
def Short (cs : List Pp.Cls) : Prop := cs.length ≤ 100000 ∧ ∀ c ∈ cs, c.ifaces.length ≤ 100000 ∧ c.fields.length ≤ 100000 ∧ c.methods.length ≤ 100000 ∧ ∀ m ∈ c.methods, m.params.length ≤ 100000 ∧ m.code.length ≤ 100000 ∧ m.catches.length ≤ 100000
set_option maxHeartbeats 4000000 in
theorem Program_same (cs : List Pp.Cls) (v1 v2 : Value) (w : World) (hs : Short cs) (h1 : ProgP w v1 cs) (h2 : ProgP w v2 cs) :
    Calls Tryz.prog 9 #[.agg #[v1], .agg #[v2]] w fun e w' => e = .returned (.bool true) ∧ Below w.heap.size w w' := by
  have hC : Hid (∀ w', Below w.heap.size w w' → Calls Tryz.prog 19 #[v1, v2] w' fun e w'' => e = .returned (.bool true) ∧ Below w'.heap.size w' w'') := hide fun w' hb => Classes_same cs v1 v2 w' hs.1 hs.2 (h1.on hb) (h2.on hb)
  obtain ⟨a1, c1, rfl, _⟩ := h1.len
  obtain ⟨a2, c2, rfl, _⟩ := h2.len
  clear h1 h2 hs
  go_enter Tryz.func9, Tryz.ntmps9
  go_wp2_with fail
  refine (hC.out _ (((Below.refl _ _).alloc (Nat.le_refl _) _).alloc (by simp) _)).mono ?_
  rintro e w1 ⟨rfl, hb1⟩
  have hB := (box_two hb1).2.2
  clear hb1 hC
  go_wp2_with fail
  go_ret
  exact ⟨rfl, hB⟩

end Go.Proofs.YtdgfidaopkcjoaaGreatDoor

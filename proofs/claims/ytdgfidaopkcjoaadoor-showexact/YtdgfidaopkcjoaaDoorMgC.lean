/- What show's writer says of numbers and types. What show's writer says of types, fields. What show's writer says of an instruction. What show's writer says of a method's body. What show's writer says of a method. What show's writer says of a class. -/
import Derived.Test.YtdgfidaopkcjoaaDoorShowK
import Derived.Test.YtdgfidaopkcjoaaDoorShelf
import Derived.WalkSmall
import Derived.Deep.RegionHeld
namespace Go.Proofs.YtdgfidaopkcjoaaDoor
open Go.RowKit
set_option linter.unusedVariables false
set_option linter.unusedSimpArgs false

namespace Sh
def strsA (ws : List Pp.Bs) : Array Value := (ws.map fun s => Value.string ⟨s.toArray⟩).toArray
end Sh
theorem say_new (B b c n : Nat) (ws : List Pp.Bs) (arr : Array Value) (harr : arr = Sh.strsA ws) (hn : n = ws.length) (l : List UInt8) (v : Value) (w : World) (hw : Sh.Wr B w b l v)
    (hn2 : n ≤ 1000000) (hle : l.length + (Pp.sayL ws).length ≤ 1000000000) :
    Calls Tryd.prog 35 #[.pointer (some ⟨b, 0, none⟩), .slice (some ⟨w.heap.size, 0, none⟩) n c] (w.alloc (.cells arr 9)) fun e w' => e = .returned (.tuple #[]) ∧ (∃ v', Sh.Wr B w' b (l ++ Pp.sayL ws) v') ∧ Sh.Ke B w w' := by
  subst hn
  refine (say_any B b w.heap.size 0 c ws l v _ (hw.alloc _) (fun wq hq j s hs => ?_) hn2 hle).mono ?_
  · rw [hq.cell (heap_alloc_new w _) (by decide) (by decide), harr, Nat.zero_add, Sh.strsA]
    simp [hs]
  · rintro e w' ⟨rfl, h1, h2⟩
    exact ⟨rfl, h1, (Sh.Ke.alloc hw.2.1 _).trans h2⟩

set_option maxRecDepth 100000 in
set_option maxHeartbeats 2000000 in
theorem comma_any (B b i : Nat) (l : List UInt8) (v : Value) (w : World) (hw : Sh.Wr B w b l v) (hi : i ≤ 1000000) (hle : l.length + 2 ≤ 1000000000) :
    Calls Tryd.prog 37 #[.pointer (some ⟨b, 0, none⟩), .int .i64 (i : Int)] w fun e w' => e = .returned (.tuple #[]) ∧ (∃ v', Sh.Wr B w' b (l ++ (if i = 0 then [] else Pp.sayL [[44]])) v') ∧ Sh.Ke B w w' := by
  by_cases h : i = 0
  · subst h
    go_enter Tryd.func37, Tryd.ntmps37
    go_wp2_with fail
    refine bodyPost_end (v := .tuple #[]) (by simp [results, Tryd.results37, go_sem]) rfl ⟨rfl, ⟨v, ?_⟩, Sh.Ke.refl _ _⟩
    simpa using hw
  · have HC := hide (say_new B b 1 1 [[44]] #[.string ⟨#[44]⟩] rfl rfl l v w hw (by omega) (by simpa [Pp.sayL] using hle))
    rw [if_neg h]
    have hi0 : (0 : Int) < (i : Int) := by omega
    clear hw
    go_enter Tryd.func37, Tryd.ntmps37
    go_wp2_with fail
    refine HC.out.mono ?_
    rintro e w1 ⟨rfl, h1, h2⟩
    have H1 := hide h1
    have H2 := hide h2
    clear h1 h2 HC
    go_wp2_with fail
    exact bodyPost_end (v := .tuple #[]) (by simp [results, Tryd.results37, go_sem]) rfl ⟨rfl, H1.out, H2.out⟩

theorem gTab : Tryd.prog.globalNamed "internal/strconv.uint64pow10" = some 3 := by kernel_rfl
def Tab (w : World) : Prop := Lib.TabIs Tryd.prog w "internal/strconv.uint64pow10" .u64 Lib.pow10Tab
theorem Tab.keep {w w' : World} {B : Nat} (h : Tab w) (hb : Below B w w') (h0 : 3 < B) : Tab w' := var?_below hb gTab h0 h
theorem Itoa_is (n : Int) (h0 : -2147483648 ≤ n) (h1 : n ≤ 2147483647) (w : World) (ht : Tab w) :
    Calls Tryd.prog 79 #[.int .i64 n] w fun e w' => e = .returned (.string ⟨(Lx.intL n).toArray⟩) ∧ Below w.heap.size w w' := by
  refine (Tryd.strconv_Itoa n (by omega) (by omega) w ht).mono ?_
  rintro e w' ⟨rfl, k, os, rfl⟩
  rw [Lx.itoa_intL n h0 h1]
  refine ⟨rfl, rfl, rfl, rfl, ?_, fun i hi => ?_⟩
  · show w.heap.size ≤ (w.heap ++ os).size
    simp
  · show (w.heap ++ os)[i]? = w.heap[i]?
    rw [Array.getElem?_append_left hi]
namespace Sh
/-- The tables that a writer leans on. -/
structure Tabs (B : Nat) (w : World) : Prop where
  ws : TabS w
  pw : Tab w
  hB : 3 < B ∧ 2 < B ∧ 0 < B
theorem Tabs.on {B : Nat} {w w' : World} (h : Tabs B w) (hb : Below B w w') : Tabs B w' :=
  ⟨⟨fun i t ht => (hb.cell (by exact h.hB.2.1)).trans (h.ws.words i t ht), fun i t ht => (hb.cell (by exact h.hB.2.2)).trans (h.ws.kept i t ht)⟩, h.pw.keep hb h.hB.1, h.hB⟩
theorem intsL_take {ns : List Int} {k : Nat} {n : Int} (h : ns[k]? = some n) : Pp.sayL ((ns.take (k + 1)).map Lx.intL) = Pp.sayL ((ns.take k).map Lx.intL) ++ Pp.sayL [Lx.intL n] := by
  rw [List.take_add_one, h, List.map_append, Pp.sayL_app]; rfl
theorem intsL_le {ns : List Int} (k : Nat) : (Pp.sayL ((ns.take k).map Lx.intL)).length ≤ (Pp.sayL (ns.map Lx.intL)).length := by
  have h := Pp.sayL_app ((ns.take k).map Lx.intL) ((ns.drop k).map Lx.intL)
  rw [← List.map_append, List.take_append_drop] at h
  rw [h, List.length_append]; omega
end Sh

set_option maxRecDepth 100000 in
set_option maxHeartbeats 4000000 in
theorem number_any (B b g o c : Nat) (ns : List Int) (l : List UInt8) (v : Value) (w : World) (hw : Sh.Wr B w b l v) (ht : Sh.Tabs B w)
    (hcells : ∀ wq, Sh.Ke B w wq → ∀ (j : Nat) (n : Int), ns[j]? = some n → wq.cell? ⟨g, o + j, none⟩ = some (.int .i64 n))
    (hr : ∀ n ∈ ns, -2147483648 ≤ n ∧ n ≤ 2147483647) (hn : ns.length ≤ 1000000) (hle : l.length + (Pp.sayL (ns.map Lx.intL)).length ≤ 1000000000) :
    Calls Tryd.prog 67 #[.pointer (some ⟨b, 0, none⟩), .slice (some ⟨g, o, none⟩) ns.length c] w fun e w' => e = .returned (.tuple #[]) ∧ (∃ v', Sh.Wr B w' b (l ++ Pp.sayL (ns.map Lx.intL)) v') ∧ Sh.Ke B w w' := by
  obtain ⟨len, hlen⟩ : ∃ len, len = ns.length := ⟨_, rfl⟩
  have HL := hide hlen
  rw [← hlen] at hn ⊢
  clear hlen
  have HC := hide hcells
  have HW := hide hw
  have HLE := hide hle
  have HT := hide ht
  have HR := hide hr
  clear hcells hw hle ht hr
  go_enter Tryd.func67, Tryd.ntmps67
  go_wp2_with fail
  go_loopw [8] (fun i wr => ∃ (k : Nat) (v : Value), k ≤ len ∧ i = .int .i64 k ∧ Sh.Wr B wr b (l ++ Pp.sayL ((ns.take k).map Lx.intL)) v ∧ Sh.Ke B w wr) (fun i _ => len - (intOf i).toNat)
  case atStart => exact ⟨0, v, Nat.zero_le _, rfl, by simpa [Pp.sayL] using HW.out, Sh.Ke.refl _ _⟩
  case round =>
    obtain ⟨k, v0, hk, rfl, hwr, hke⟩ := hrel
    by_cases hlt : k < len
    · obtain ⟨n, hs⟩ : ∃ n, ns[k]? = some n := ⟨ns[k]'(by rw [← HL.out]; exact hlt), List.getElem?_eq_getElem _⟩
      have r0 := HC.out wr hke k n hs
      have hS := Sh.intsL_take hs
      have hS2 := Sh.intsL_le (ns := ns) (k + 1)
      rw [hS] at hS2
      have HR2 := hide (HR.out n (List.mem_of_getElem? hs))
      have HA : Hid (l ++ Pp.sayL ((ns.take (k + 1)).map Lx.intL) = (l ++ Pp.sayL ((ns.take k).map Lx.intL)) ++ Pp.sayL [Lx.intL n]) := hide (by rw [hS]; simp only [List.append_assoc])
      have HI := hide (fun wq (hq : Tab wq) => Itoa_is n HR2.out.1 HR2.out.2 wq hq)
      have HLl : Hid ((l ++ Pp.sayL ((ns.take k).map Lx.intL)).length + (Pp.sayL [Lx.intL n]).length ≤ 1000000000) := hide (by
        have h2 := HLE.out
        simp only [List.length_append] at hS2 ⊢
        omega)
      generalize l ++ Pp.sayL ((ns.take k).map Lx.intL) = acc at *
      have HWR := hide hwr
      have HKE := hide hke
      have HTw := hide (HT.out.on hke.bel)
      clear hwr hke hs hS hS2
      have hlt' : (k : Int) < (len : Int) := by omega
      go_wp2_with fail
      refine (HI.out _ HTw.out.pw).mono ?_
      rintro e w1 ⟨rfl, hb1⟩
      have HS := hide (say_new B b 1 1 [Lx.intL n] #[.string ⟨(Lx.intL n).toArray⟩] rfl rfl acc v0 w1 (HWR.out.below hb1) (by omega) HLl.out)
      have HK1 := hide (HKE.out.trans (Sh.Ke.below HWR.out.2.1 hb1))
      clear hb1 HI HWR HKE r0
      go_wp2_with fail
      refine HS.out.mono ?_
      rintro e w2 ⟨rfl, h1, h2⟩
      obtain ⟨v2, h1⟩ := h1
      rw [← HA.out] at h1
      have H1 := hide h1
      have H2 := hide (HK1.out.trans h2)
      clear h1 h2 HS HK1 HA HLl
      go_wp2_with fail
      go_roundw
      case rel => exact ⟨k + 1, v2, by omega, by go_num, H1.out, H2.out⟩
      case measure => simp [intOf]; omega
    · go_wp2_with fail
      refine bodyPost_end (v := .tuple #[]) (by simp [results, Tryd.results67, go_sem]) rfl ⟨rfl, ⟨v0, ?_⟩, hke⟩
      rw [List.take_of_length_le (by rw [← HL.out]; omega)] at hwr
      exact hwr

theorem number_new (B b c n : Nat) (ns : List Int) (arr : Array Value) (harr : arr = (ns.map fun x => Value.int .i64 x).toArray) (hn : n = ns.length) (l : List UInt8) (v : Value) (w : World) (hw : Sh.Wr B w b l v) (ht : Sh.Tabs B w)
    (hr : ∀ n ∈ ns, -2147483648 ≤ n ∧ n ≤ 2147483647) (hn2 : n ≤ 1000000) (hle : l.length + (Pp.sayL (ns.map Lx.intL)).length ≤ 1000000000) :
    Calls Tryd.prog 67 #[.pointer (some ⟨b, 0, none⟩), .slice (some ⟨w.heap.size, 0, none⟩) n c] (w.alloc (.cells arr 3)) fun e w' => e = .returned (.tuple #[]) ∧ (∃ v', Sh.Wr B w' b (l ++ Pp.sayL (ns.map Lx.intL)) v') ∧ Sh.Ke B w w' := by
  subst hn
  refine (number_any B b w.heap.size 0 c ns l v _ (hw.alloc _) (ht.on (Sh.Ke.alloc hw.2.1 _).bel) (fun wq hq j s hs => ?_) hr hn2 hle).mono ?_
  · rw [hq.cell (heap_alloc_new w _) (by decide) (by decide), harr, Nat.zero_add]
    simp [hs]
  · rintro e w' ⟨rfl, h1, h2⟩
    exact ⟨rfl, h1, (Sh.Ke.alloc hw.2.1 _).trans h2⟩

end Go.Proofs.YtdgfidaopkcjoaaDoor

namespace Go.Proofs.YtdgfidaopkcjoaaDoor
open Go.RowKit
set_option linter.unusedVariables false
set_option linter.unusedSimpArgs false

namespace Sh
def tyS (t : Pp.Ty) : List Pp.Bs := (Pp.tyW t).map Pp.wtx
end Sh
set_option maxRecDepth 100000 in
set_option maxHeartbeats 2000000 in
theorem typeWords_any (t : Pp.Ty) (h : Pp.okTy t) (w : World) :
    Calls Tryd.prog 24 #[.agg #[.int .i64 t.kind, .string ⟨t.name.toArray⟩]] w fun e w' => ∃ g, e = .returned (.slice (some ⟨g, 0, none⟩) (Sh.tyS t).length (Sh.tyS t).length) ∧ w'.heap[g]? = some (.cells (Sh.strsA (Sh.tyS t)) 9 (0, 0)) ∧ Below w.heap.size w w' := by
  obtain ⟨k, n⟩ := t
  have hk : k = 1 ∨ k = 2 ∨ k = 4 ∨ k = 3 ∨ k = 5 := by
    rcases h with ⟨h, _⟩ | ⟨h, _⟩ <;> simp only at h <;> omega
  clear h
  have hN : ∀ (c1 c2 : Array Value) (t1 t2 : TypeId), ((w.alloc (.cells c1 t1)).alloc (.cells c2 t2)).heap[w.heap.size + 1]? = some (.cells c2 t2 (0, 0)) := fun c1 c2 t1 t2 => by
    have := heap_alloc_new (w.alloc (.cells c1 t1)) (.cells c2 t2)
    simpa using this
  have HN := hide hN
  have HB : Hid (∀ (c1 c2 : Array Value) (t1 t2 : TypeId), Below w.heap.size w ((w.alloc (.cells c1 t1)).alloc (.cells c2 t2))) := hide fun c1 c2 t1 t2 => ((Below.refl _ _).alloc (Nat.le_refl _) _).alloc (by simp) _
  clear hN
  rcases hk with rfl | rfl | rfl | rfl | rfl
  · go_enter Tryd.func24, Tryd.ntmps24
    go_wp2_with fail
    go_ret
    exact ⟨_, rfl, HN.out _ _ _ _, HB.out _ _ _ _⟩
  · go_enter Tryd.func24, Tryd.ntmps24
    go_wp2_with fail
    go_ret
    exact ⟨_, rfl, HN.out _ _ _ _, HB.out _ _ _ _⟩
  · go_enter Tryd.func24, Tryd.ntmps24
    go_wp2_with fail
    go_ret
    exact ⟨_, rfl, HN.out _ _ _ _, HB.out _ _ _ _⟩
  · go_enter Tryd.func24, Tryd.ntmps24
    go_wp2_with fail
    go_ret
    exact ⟨_, rfl, HN.out _ _ _ _, HB.out _ _ _ _⟩
  · go_enter Tryd.func24, Tryd.ntmps24
    go_wp2_with fail
    go_ret
    exact ⟨_, rfl, HN.out _ _ _ _, HB.out _ _ _ _⟩

theorem tyS_len (t : Pp.Ty) : (Sh.tyS t).length ≤ 3 := by
  unfold Sh.tyS Pp.tyW
  repeat (first | split | simp)

/-- What a writer says of words that lie in memory. -/
theorem say_blk (B b g n c : Nat) (ws : List Pp.Bs) (arr : Array Value) (harr : arr = Sh.strsA ws) (hn : n = ws.length) (l : List UInt8) (v : Value) (w : World) (hw : Sh.Wr B w b l v) (hg : w.heap[g]? = some (.cells arr 9 (0, 0))) (hn2 : n ≤ 1000000) (hle : l.length + (Pp.sayL ws).length ≤ 1000000000) :
    Calls Tryd.prog 35 #[.pointer (some ⟨b, 0, none⟩), .slice (some ⟨g, 0, none⟩) n c] w fun e w' => e = .returned (.tuple #[]) ∧ (∃ v', Sh.Wr B w' b (l ++ Pp.sayL ws) v') ∧ Sh.Ke B w w' := by
  subst hn harr
  refine say_any B b g 0 _ ws l v _ hw (fun wq hq j s hs => ?_) hn2 hle
  rw [hq.cell hg (by decide) (by decide), Nat.zero_add, Sh.strsA]
  simp [hs]
/-- What a writer says of the words of a type that lie in memory. -/
theorem say_type (B b g : Nat) (ws : List Pp.Bs) (l : List UInt8) (v : Value) (w : World) (hw : Sh.Wr B w b l v) (hg : w.heap[g]? = some (.cells (Sh.strsA ws) 9 (0, 0))) (hn : ws.length ≤ 3) (hle : l.length + (Pp.sayL ws).length ≤ 1000000000) :
    Calls Tryd.prog 35 #[.pointer (some ⟨b, 0, none⟩), .slice (some ⟨g, 0, none⟩) ws.length ws.length] w fun e w' => e = .returned (.tuple #[]) ∧ (∃ v', Sh.Wr B w' b (l ++ Pp.sayL ws) v') ∧ Sh.Ke B w w' := by
  refine say_any B b g 0 _ ws l v _ hw (fun wq hq j s hs => ?_) (by omega) hle
  rw [hq.cell hg (by decide) (by decide), Nat.zero_add, Sh.strsA]
  simp [hs]

set_option maxRecDepth 100000 in
set_option maxHeartbeats 4000000 in
theorem wfield_any (B b : Nat) (f : Pp.Fld) (hok : Pp.okFld f) (l : List UInt8) (v : Value) (w : World) (hw : Sh.Wr B w b l v) (hle : l.length + (Pp.wordsT (Pp.fldW f)).length ≤ 1000000000) :
    Calls Tryd.prog 38 #[.pointer (some ⟨b, 0, none⟩), .agg #[.string ⟨f.name.toArray⟩, .int .i64 f.ty.kind, .string ⟨f.ty.name.toArray⟩, .bool f.stat]] w fun e w' => e = .returned (.tuple #[]) ∧ (∃ v', Sh.Wr B w' b (l ++ Pp.wordsT (Pp.fldW f)) v') ∧ Sh.Ke B w w' := by
  have hT := hide (fun w => typeWords_any f.ty hok.2 w)
  have hTl := tyS_len f.ty
  obtain ⟨n, ty, st⟩ := f
  simp only at hT hTl ⊢
  have hR : Pp.wordsT (Pp.fldW ⟨n, ty, st⟩) = Pp.sayL [if st = true then Pp.wStatic else Pp.wField, n, Pp.wColon] ++ (Pp.sayL (Sh.tyS ty) ++ Pp.sayL [Pp.wSemi]) := by
    simp only [Pp.wordsT, Pp.fldW, List.map_append, ← Pp.sayL_app]
    rfl
  rw [hR] at hle ⊢
  clear hR hok
  simp only [List.length_append] at hle
  have HLE := hide hle
  have hE := hide (fun w => either_any st ⟨Pp.wStatic.toArray⟩ ⟨Pp.wField.toArray⟩ w)
  generalize Sh.tyS ty = ts at *
  obtain ⟨l1, hl1⟩ : ∃ l1, l1 = Pp.sayL [if st = true then Pp.wStatic else Pp.wField, n, Pp.wColon] := ⟨_, rfl⟩
  rw [← hl1] at HLE ⊢
  have HL1 := hide hl1
  clear hl1
  have hwz := hw.alloc (.cells #[.string ⟨n.toArray⟩, .int .i64 ty.kind, .string ⟨ty.name.toArray⟩, .bool st] 50)
  have hkz := Sh.Ke.alloc hw.2.1 (.cells #[.string ⟨n.toArray⟩, .int .i64 ty.kind, .string ⟨ty.name.toArray⟩, .bool st] 50)
  have hz : ∀ wx, Sh.Ke B (w.alloc (.cells #[.string ⟨n.toArray⟩, .int .i64 ty.kind, .string ⟨ty.name.toArray⟩, .bool st] 50)) wx → ∀ j, wx.cell? ⟨w.heap.size, j, none⟩ = #[Value.string ⟨n.toArray⟩, .int .i64 ty.kind, .string ⟨ty.name.toArray⟩, .bool st][j]? := fun wx hx j => hx.cell (heap_alloc_new w _) (by decide) (by decide) j
  have HZ := hide hz
  have HWZ := hide hwz
  have HKZ := hide hkz
  clear hz hwz hkz hw hle
  go_enter Tryd.func38, Tryd.ntmps38
  go_wp2_with fail
  generalize w.alloc (.cells #[.string ⟨n.toArray⟩, .int .i64 ty.kind, .string ⟨ty.name.toArray⟩, .bool st] 50) = wz at *
  have hK : Hid (∀ wx, Sh.Ke B wz wx → wx.cell? ⟨w.heap.size, 0, none⟩ = some (.string ⟨n.toArray⟩) ∧ wx.cell? ⟨w.heap.size, 3, none⟩ = some (.bool st)) := hide fun wx hx => ⟨HZ.out wx hx 0, HZ.out wx hx 3⟩
  have hD : Hid (Sh.Ke B wz wz.drew) := hide (Sh.Ke.drew _ _)
  have hA : Hid (∀ o, Sh.Ke B wz (wz.alloc o).drew) := hide fun o => (Sh.Ke.alloc HWZ.out.2.1 o).trans (Sh.Ke.drew _ _)
  have HS : Hid (Calls Tryd.prog 35 #[.pointer (some ⟨b, 0, none⟩), .slice (some ⟨wz.heap.size, 0, none⟩) 3 3] (wz.alloc (.cells #[.string (if st = true then ⟨Pp.wStatic.toArray⟩ else ⟨Pp.wField.toArray⟩), .string ⟨n.toArray⟩, .string ⟨#[58]⟩] 9)).drew fun e w' => e = .returned (.tuple #[]) ∧ (∃ v', Sh.Wr B w' b (l ++ l1) v') ∧ Sh.Ke B (wz.alloc (.cells #[.string (if st = true then ⟨Pp.wStatic.toArray⟩ else ⟨Pp.wField.toArray⟩), .string ⟨n.toArray⟩, .string ⟨#[58]⟩] 9)).drew w') :=
    hide (by rw [HL1.out] at HLE ⊢; exact say_blk B b wz.heap.size 3 3 _ _ (by cases st <;> rfl) rfl l v _ ((HWZ.out.alloc _).drew) (heap_alloc_new wz _) (by omega) (by have := HLE.out; omega))
  generalize hkw : (if st = true then (⟨Pp.wStatic.toArray⟩ : ByteArray) else ⟨Pp.wField.toArray⟩) = KW at *
  clear hkw
  clear HL1
  go_region_held (fun wx => wx.cell? ⟨w.heap.size, 0, none⟩ = some (.string ⟨n.toArray⟩) ∧ wx.cell? ⟨w.heap.size, 3, none⟩ = some (.bool st)) (first | exact hK.out _ HK6.out | exact hK.out _ hD.out | exact hK.out _ (hA.out _))
    (first | (go_at_call 36; refine (hE.out _).mono ?_; rintro e w5 ⟨rfl, hw5⟩; subst hw5) | (go_at_call 35; refine HS.out.mono ?_; rintro e w6 ⟨rfl, h61, h62⟩; have HK6 : Hid (Sh.Ke B wz w6) := hide ((hA.out _).trans h62); have HW6 := hide h61; clear h61 h62))
  obtain ⟨v6, hW6⟩ := HW6.out
  have HW6' := hide hW6
  have q1 : w6.cell? ⟨w.heap.size, 1, none⟩ = some (.int .i64 ty.kind) := HZ.out w6 HK6.out 1
  have q2 : w6.cell? ⟨w.heap.size, 2, none⟩ = some (.string ⟨ty.name.toArray⟩) := HZ.out w6 HK6.out 2
  have HK6' := hide (HKZ.out.trans HK6.out)
  clear hW6 HW6 HK6 HZ HKZ hK hD hA HS hE HWZ
  go_wp2_with fail
  refine (hT.out _).mono ?_
  rintro e w7 ⟨g, rfl, hg, hb7⟩
  have HS7 := hide (say_type B b g ts (l ++ l1) v6 w7 (HW6'.out.below hb7) hg hTl (by have := HLE.out; rw [List.length_append]; omega))
  have HK7 := hide (HK6'.out.trans (Sh.Ke.below HW6'.out.2.1 hb7))
  clear hb7 hg hT q1 q2 HW6' HK6'
  go_wp2_with fail
  refine HS7.out.mono ?_
  rintro e w8 ⟨rfl, ⟨v8, h81⟩, h82⟩
  have HS8 := hide (say_new B b 1 1 [Pp.wSemi] #[.string ⟨#[59]⟩] rfl rfl _ v8 w8 h81 (by omega) (by have := HLE.out; rw [List.length_append, List.length_append]; omega))
  have HK8 := hide (HK7.out.trans h82)
  clear h81 h82 HS7 HK7
  go_wp2_with fail
  refine HS8.out.mono ?_
  rintro e w9 ⟨rfl, ⟨v9, h91⟩, h92⟩
  rw [List.append_assoc, List.append_assoc] at h91
  have HW9 := hide h91
  have HK9 := hide (HK8.out.trans h92)
  clear h91 h92 HS8 HK8
  go_wp2_with fail
  exact bodyPost_end (v := .tuple #[]) (by simp [results, Tryd.results38, go_sem]) rfl ⟨rfl, ⟨v9, HW9.out⟩, HK9.out⟩

end Go.Proofs.YtdgfidaopkcjoaaDoor

namespace Go.Proofs.YtdgfidaopkcjoaaDoor
open Go.RowKit
set_option linter.unusedVariables false
set_option linter.unusedSimpArgs false

namespace Sh
theorem wtx_nm (s : Pp.Bs) : Pp.wtx (Pp.nm s) = s := rfl
theorem wtx_sg (s : Pp.Bs) : Pp.wtx (Pp.sg s) = s := rfl
theorem wtx_nu (n : Int) : Pp.wtx (Pp.nu n) = Lx.intL n := rfl
theorem ins_cases (x : Pp.XIns) (h : Pp.insB x = true) : (0 ≤ x.op ∧ x.op < 44) ∧
    ((∃ lo hi, Pp.argsX x.op = (true, lo, hi, 0) ∧ (-2147483648 ≤ x.n ∧ x.n ≤ 2147483647) ∧ Pp.wordsT (Pp.insW x.toP) = Pp.sayL [wordL x.op] ++ (Pp.sayL [Lx.intL x.n] ++ Pp.sayL [Pp.wSemi])) ∨
     (Pp.argsX x.op = (false, 0, 0, 0) ∧ Pp.wordsT (Pp.insW x.toP) = Pp.sayL [wordL x.op] ++ Pp.sayL [Pp.wSemi]) ∨
     (Pp.argsX x.op = (false, 0, 0, 1) ∧ Pp.wordsT (Pp.insW x.toP) = Pp.sayL [wordL x.op] ++ (Pp.sayL [x.a] ++ Pp.sayL [Pp.wSemi])) ∨
     (Pp.argsX x.op = (false, 0, 0, 2) ∧ Pp.wordsT (Pp.insW x.toP) = Pp.sayL [wordL x.op] ++ (Pp.sayL [x.a] ++ (Pp.sayL [x.b] ++ Pp.sayL [Pp.wSemi])))) := by
  obtain ⟨h0, h1⟩ := (Pp.insB_iff x).1 h
  obtain ⟨op, n, a, b⟩ := x
  obtain ⟨k, rfl⟩ := Int.eq_ofNat_of_zero_le h0
  have hk : k < 44 := by have := h1.1; simpa [Pp.XIns.toP] using this
  have hw : wordL (k : Int) = Pp.opWords.getD k [] := by
    unfold wordL; rw [if_pos ⟨h0, by omega⟩]; simp
  have ha := h1.2
  simp only [Pp.XIns.toP, Int.toNat_natCast] at ha ⊢
  refine ⟨⟨h0, by omega⟩, ?_⟩
  rw [hw, Pp.argsX_shape k hk]
  unfold Pp.okArg at ha
  unfold Pp.insW Pp.argW
  simp only at ha ⊢
  rcases ha with ⟨e, c1, c2, c3, c4⟩ | ⟨e, c1, c2, c3, c4⟩ | ⟨e, c1, c2, c3, c4⟩ | ⟨e, c1, c2, c3⟩ | ⟨e, c1, c2, c3⟩ | ⟨e, c1, c2, c3⟩
  · refine .inl ⟨_, _, by rw [e]; rfl, ⟨by omega, by omega⟩, ?_⟩
    rw [e]; simp [Pp.wordsT, Pp.sayL, wtx_nm, wtx_sg, wtx_nu]
  · refine .inl ⟨_, _, by rw [e]; rfl, ⟨by omega, by omega⟩, ?_⟩
    rw [e]; simp [Pp.wordsT, Pp.sayL, wtx_nm, wtx_sg, wtx_nu]
  · refine .inl ⟨_, _, by rw [e]; rfl, ⟨by omega, by omega⟩, ?_⟩
    rw [e]; simp [Pp.wordsT, Pp.sayL, wtx_nm, wtx_sg, wtx_nu]
  · refine .inr (.inr (.inl ⟨by rw [e]; rfl, ?_⟩))
    rw [e]; simp [Pp.wordsT, Pp.sayL, wtx_nm, wtx_sg, wtx_nu]
  · refine .inr (.inr (.inr ⟨by rw [e]; rfl, ?_⟩))
    rw [e]; simp [Pp.wordsT, Pp.sayL, wtx_nm, wtx_sg, wtx_nu]
  · refine .inr (.inl ⟨by rw [e]; rfl, ?_⟩)
    rw [e]; simp [Pp.wordsT, Pp.sayL, wtx_nm, wtx_sg, wtx_nu]
end Sh

set_option maxRecDepth 100000 in
set_option maxHeartbeats 4000000 in
theorem winstr_n (B b : Nat) (op n : Int) (a b' wd : Pp.Bs) (lo hi : Int) (hO : ∀ w, Calls Tryd.prog 80 #[.int .i64 op] w fun e w' => e = .returned (.agg #[.bool true, .int .i64 lo, .int .i64 hi, .int .i64 0]) ∧ Below w.heap.size w w') (hWd : ∀ w, TabS w → Calls Tryd.prog 81 #[.int .i64 op] w fun e w' => e = .returned (.string ⟨wd.toArray⟩) ∧ w' = w) (hn : -2147483648 ≤ n ∧ n ≤ 2147483647) (l : List UInt8) (v : Value) (w : World) (hw : Sh.Wr B w b l v) (ht : Sh.Tabs B w) (hle : l.length + (Pp.sayL [wd] ++ (Pp.sayL [Lx.intL n] ++ Pp.sayL [Pp.wSemi])).length ≤ 1000000000) :
    Calls Tryd.prog 68 #[.pointer (some ⟨b, 0, none⟩), .agg #[.int .i64 op, .int .i64 n, .string ⟨a.toArray⟩, .string ⟨b'.toArray⟩]] w fun e w' => e = .returned (.tuple #[]) ∧ (∃ v', Sh.Wr B w' b (l ++ (Pp.sayL [wd] ++ (Pp.sayL [Lx.intL n] ++ Pp.sayL [Pp.wSemi]))) v') ∧ Sh.Ke B w w' := by
  have HT := hide ht
  have hwz := hw.alloc (.cells #[.int .i64 op, .int .i64 n, .string ⟨a.toArray⟩, .string ⟨b'.toArray⟩] 57)
  have hkz := Sh.Ke.alloc hw.2.1 (.cells #[.int .i64 op, .int .i64 n, .string ⟨a.toArray⟩, .string ⟨b'.toArray⟩] 57)
  have hz : ∀ wx, Sh.Ke B (w.alloc (.cells #[.int .i64 op, .int .i64 n, .string ⟨a.toArray⟩, .string ⟨b'.toArray⟩] 57)) wx → ∀ j, wx.cell? ⟨w.heap.size, j, none⟩ = #[Value.int .i64 op, .int .i64 n, .string ⟨a.toArray⟩, .string ⟨b'.toArray⟩][j]? := fun wx hx j => hx.cell (heap_alloc_new w _) (by decide) (by decide) j
  have hsz : w.heap.size < (w.alloc (.cells #[.int .i64 op, .int .i64 n, .string ⟨a.toArray⟩, .string ⟨b'.toArray⟩] 57)).heap.size := by simp
  have HZ := hide hz
  have HWZ := hide hwz
  have HKZ := hide hkz
  have HO := hide hO
  have HWd := hide hWd
  simp only [List.length_append] at hle
  have HLE := hide hle
  clear hz hwz hkz hw ht hO hWd hle
  go_enter Tryd.func68, Tryd.ntmps68
  go_wp2_with fail
  generalize w.alloc (.cells #[.int .i64 op, .int .i64 n, .string ⟨a.toArray⟩, .string ⟨b'.toArray⟩] 57) = wz at *
  refine (HO.out _).mono ?_
  rintro e w1 ⟨rfl, hb1⟩
  have hk1 := Sh.Ke.below (B := B) HWZ.out.2.1 hb1
  have hs1 := Nat.lt_of_lt_of_le hsz hb1.size
  have HW1 := hide (HWZ.out.below hb1)
  have hky := hk1.trans (Sh.Ke.alloc HW1.out.2.1 (.cells #[.bool true, .int .i64 lo, .int .i64 hi, .int .i64 0] 116))
  have HZ2 : Hid (∀ wx, Sh.Ke B (w1.alloc (.cells #[.bool true, .int .i64 lo, .int .i64 hi, .int .i64 0] 116)) wx → (∀ j, wx.cell? ⟨w1.heap.size, j, none⟩ = #[Value.bool true, .int .i64 lo, .int .i64 hi, .int .i64 0][j]?) ∧ (∀ j, wx.cell? ⟨w.heap.size, j, none⟩ = #[Value.int .i64 op, .int .i64 n, .string ⟨a.toArray⟩, .string ⟨b'.toArray⟩][j]?)) := hide fun wx hx => ⟨fun j => hx.cell (heap_alloc_new w1 _) (by decide) (by decide) j, fun j => HZ.out _ (hky.trans hx) j⟩
  have HKY := hide (HKZ.out.trans hky)
  have HWY := hide (HW1.out.alloc (.cells #[.bool true, .int .i64 lo, .int .i64 hi, .int .i64 0] 116))
  have q0 : w1.cell? ⟨w.heap.size, 0, none⟩ = some (.int .i64 op) := HZ.out _ hk1 0
  clear HO hb1 hk1 hky HZ HW1 HWZ HKZ hsz
  go_wp2_with fail
  generalize w1.alloc (.cells #[.bool true, .int .i64 lo, .int .i64 hi, .int .i64 0] 116) = wy at *
  have HTY := hide (HT.out.on HKY.out.bel)
  refine (HWd.out _ HTY.out.ws).mono ?_
  rintro e wq ⟨rfl, hwq⟩
  subst hwq
  have HS := hide (say_new B b 1 1 [wd] #[.string ⟨wd.toArray⟩] rfl rfl l v _ HWY.out (by omega) (by have := HLE.out; omega))
  clear HWd q0
  go_wp2_with fail
  refine HS.out.mono ?_
  rintro e w2 ⟨rfl, ⟨v2, h21⟩, h22⟩
  have HK2 := hide h22
  have HW2 := hide h21
  clear h21 h22 HS HWY
  have c0 : w2.cell? ⟨w1.heap.size, 0, none⟩ = some (.bool true) := (HZ2.out _ HK2.out).1 0
  have c3 : w2.cell? ⟨w1.heap.size, 3, none⟩ = some (.int .i64 0) := (HZ2.out _ HK2.out).1 3
  have d1 : w2.cell? ⟨w.heap.size, 1, none⟩ = some (.int .i64 n) := (HZ2.out _ HK2.out).2 1
  have d2 : w2.cell? ⟨w.heap.size, 2, none⟩ = some (.string ⟨a.toArray⟩) := (HZ2.out _ HK2.out).2 2
  have d3 : w2.cell? ⟨w.heap.size, 3, none⟩ = some (.string ⟨b'.toArray⟩) := (HZ2.out _ HK2.out).2 3
  have HTn := hide (HTY.out.on HK2.out.bel)
  have HS := hide (number_new B b 1 1 [n] #[.int .i64 n] rfl rfl _ v2 _ HW2.out HTn.out (by intro m hm; simp at hm; subst hm; exact hn) (by omega) (by have := HLE.out; simp only [List.length_append, List.map_cons, List.map_nil]; omega))
  go_wp2_with fail
  refine HS.out.mono ?_
  rintro e w3 ⟨rfl, ⟨v3, h1⟩, h2⟩
  have HK3 := hide (HK2.out.trans h2)
  have HW3 := hide h1
  clear h1 h2 HS HW2 HK2 c0 c3 d1 d2 d3
  have c0 : w3.cell? ⟨w1.heap.size, 0, none⟩ = some (.bool true) := (HZ2.out _ HK3.out).1 0
  have c3 : w3.cell? ⟨w1.heap.size, 3, none⟩ = some (.int .i64 0) := (HZ2.out _ HK3.out).1 3
  have d1 : w3.cell? ⟨w.heap.size, 1, none⟩ = some (.int .i64 n) := (HZ2.out _ HK3.out).2 1
  have d2 : w3.cell? ⟨w.heap.size, 2, none⟩ = some (.string ⟨a.toArray⟩) := (HZ2.out _ HK3.out).2 2
  have d3 : w3.cell? ⟨w.heap.size, 3, none⟩ = some (.string ⟨b'.toArray⟩) := (HZ2.out _ HK3.out).2 3
  have HS := hide (say_new B b 1 1 [Pp.wSemi] #[.string ⟨#[59]⟩] rfl rfl _ v3 _ HW3.out (by omega) (by have := HLE.out; simp only [List.length_append, List.map_cons, List.map_nil]; omega))
  go_wp2_with fail
  refine HS.out.mono ?_
  rintro e w4 ⟨rfl, ⟨v4, h1⟩, h2⟩
  have HK4 := hide (HK3.out.trans h2)
  have HW4 := hide h1
  clear h1 h2 HS HW3 HK3 c0 c3 d1 d2 d3
  go_wp2_with fail
  refine bodyPost_end (v := .tuple #[]) (by simp [results, Tryd.results68, go_sem]) rfl ⟨rfl, ⟨v4, ?_⟩, HKY.out.trans HK4.out⟩
  have hh := HW4.out
  simp only [List.append_assoc, List.map_cons, List.map_nil] at hh
  simpa only [List.append_assoc] using hh

set_option maxRecDepth 100000 in
set_option maxHeartbeats 4000000 in
theorem winstr_z (B b : Nat) (op n : Int) (a b' wd : Pp.Bs) (hO : ∀ w, Calls Tryd.prog 80 #[.int .i64 op] w fun e w' => e = .returned (.agg #[.bool false, .int .i64 0, .int .i64 0, .int .i64 0]) ∧ Below w.heap.size w w') (hWd : ∀ w, TabS w → Calls Tryd.prog 81 #[.int .i64 op] w fun e w' => e = .returned (.string ⟨wd.toArray⟩) ∧ w' = w) (l : List UInt8) (v : Value) (w : World) (hw : Sh.Wr B w b l v) (ht : Sh.Tabs B w) (hle : l.length + (Pp.sayL [wd] ++ Pp.sayL [Pp.wSemi]).length ≤ 1000000000) :
    Calls Tryd.prog 68 #[.pointer (some ⟨b, 0, none⟩), .agg #[.int .i64 op, .int .i64 n, .string ⟨a.toArray⟩, .string ⟨b'.toArray⟩]] w fun e w' => e = .returned (.tuple #[]) ∧ (∃ v', Sh.Wr B w' b (l ++ (Pp.sayL [wd] ++ Pp.sayL [Pp.wSemi])) v') ∧ Sh.Ke B w w' := by
  have HT := hide ht
  have hwz := hw.alloc (.cells #[.int .i64 op, .int .i64 n, .string ⟨a.toArray⟩, .string ⟨b'.toArray⟩] 57)
  have hkz := Sh.Ke.alloc hw.2.1 (.cells #[.int .i64 op, .int .i64 n, .string ⟨a.toArray⟩, .string ⟨b'.toArray⟩] 57)
  have hz : ∀ wx, Sh.Ke B (w.alloc (.cells #[.int .i64 op, .int .i64 n, .string ⟨a.toArray⟩, .string ⟨b'.toArray⟩] 57)) wx → ∀ j, wx.cell? ⟨w.heap.size, j, none⟩ = #[Value.int .i64 op, .int .i64 n, .string ⟨a.toArray⟩, .string ⟨b'.toArray⟩][j]? := fun wx hx j => hx.cell (heap_alloc_new w _) (by decide) (by decide) j
  have hsz : w.heap.size < (w.alloc (.cells #[.int .i64 op, .int .i64 n, .string ⟨a.toArray⟩, .string ⟨b'.toArray⟩] 57)).heap.size := by simp
  have HZ := hide hz
  have HWZ := hide hwz
  have HKZ := hide hkz
  have HO := hide hO
  have HWd := hide hWd
  simp only [List.length_append] at hle
  have HLE := hide hle
  clear hz hwz hkz hw ht hO hWd hle
  go_enter Tryd.func68, Tryd.ntmps68
  go_wp2_with fail
  generalize w.alloc (.cells #[.int .i64 op, .int .i64 n, .string ⟨a.toArray⟩, .string ⟨b'.toArray⟩] 57) = wz at *
  refine (HO.out _).mono ?_
  rintro e w1 ⟨rfl, hb1⟩
  have hk1 := Sh.Ke.below (B := B) HWZ.out.2.1 hb1
  have hs1 := Nat.lt_of_lt_of_le hsz hb1.size
  have HW1 := hide (HWZ.out.below hb1)
  have hky := hk1.trans (Sh.Ke.alloc HW1.out.2.1 (.cells #[.bool false, .int .i64 0, .int .i64 0, .int .i64 0] 116))
  have HZ2 : Hid (∀ wx, Sh.Ke B (w1.alloc (.cells #[.bool false, .int .i64 0, .int .i64 0, .int .i64 0] 116)) wx → (∀ j, wx.cell? ⟨w1.heap.size, j, none⟩ = #[Value.bool false, .int .i64 0, .int .i64 0, .int .i64 0][j]?) ∧ (∀ j, wx.cell? ⟨w.heap.size, j, none⟩ = #[Value.int .i64 op, .int .i64 n, .string ⟨a.toArray⟩, .string ⟨b'.toArray⟩][j]?)) := hide fun wx hx => ⟨fun j => hx.cell (heap_alloc_new w1 _) (by decide) (by decide) j, fun j => HZ.out _ (hky.trans hx) j⟩
  have HKY := hide (HKZ.out.trans hky)
  have HWY := hide (HW1.out.alloc (.cells #[.bool false, .int .i64 0, .int .i64 0, .int .i64 0] 116))
  have q0 : w1.cell? ⟨w.heap.size, 0, none⟩ = some (.int .i64 op) := HZ.out _ hk1 0
  clear HO hb1 hk1 hky HZ HW1 HWZ HKZ hsz
  go_wp2_with fail
  generalize w1.alloc (.cells #[.bool false, .int .i64 0, .int .i64 0, .int .i64 0] 116) = wy at *
  have HTY := hide (HT.out.on HKY.out.bel)
  refine (HWd.out _ HTY.out.ws).mono ?_
  rintro e wq ⟨rfl, hwq⟩
  subst hwq
  have HS := hide (say_new B b 1 1 [wd] #[.string ⟨wd.toArray⟩] rfl rfl l v _ HWY.out (by omega) (by have := HLE.out; omega))
  clear HWd q0
  go_wp2_with fail
  refine HS.out.mono ?_
  rintro e w2 ⟨rfl, ⟨v2, h21⟩, h22⟩
  have HK2 := hide h22
  have HW2 := hide h21
  clear h21 h22 HS HWY
  have c0 : w2.cell? ⟨w1.heap.size, 0, none⟩ = some (.bool false) := (HZ2.out _ HK2.out).1 0
  have c3 : w2.cell? ⟨w1.heap.size, 3, none⟩ = some (.int .i64 0) := (HZ2.out _ HK2.out).1 3
  have d1 : w2.cell? ⟨w.heap.size, 1, none⟩ = some (.int .i64 n) := (HZ2.out _ HK2.out).2 1
  have d2 : w2.cell? ⟨w.heap.size, 2, none⟩ = some (.string ⟨a.toArray⟩) := (HZ2.out _ HK2.out).2 2
  have d3 : w2.cell? ⟨w.heap.size, 3, none⟩ = some (.string ⟨b'.toArray⟩) := (HZ2.out _ HK2.out).2 3
  have HS := hide (say_new B b 1 1 [Pp.wSemi] #[.string ⟨#[59]⟩] rfl rfl _ v2 _ HW2.out (by omega) (by have := HLE.out; simp only [List.length_append, List.map_cons, List.map_nil]; omega))
  go_wp2_with fail
  refine HS.out.mono ?_
  rintro e w3 ⟨rfl, ⟨v3, h1⟩, h2⟩
  have HK3 := hide (HK2.out.trans h2)
  have HW3 := hide h1
  clear h1 h2 HS HW2 HK2 c0 c3 d1 d2 d3
  go_wp2_with fail
  refine bodyPost_end (v := .tuple #[]) (by simp [results, Tryd.results68, go_sem]) rfl ⟨rfl, ⟨v3, ?_⟩, HKY.out.trans HK3.out⟩
  have hh := HW3.out
  simp only [List.append_assoc, List.map_cons, List.map_nil] at hh
  simpa only [List.append_assoc] using hh

set_option maxRecDepth 100000 in
set_option maxHeartbeats 4000000 in
theorem winstr_a (B b : Nat) (op n : Int) (a b' wd : Pp.Bs) (hO : ∀ w, Calls Tryd.prog 80 #[.int .i64 op] w fun e w' => e = .returned (.agg #[.bool false, .int .i64 0, .int .i64 0, .int .i64 1]) ∧ Below w.heap.size w w') (hWd : ∀ w, TabS w → Calls Tryd.prog 81 #[.int .i64 op] w fun e w' => e = .returned (.string ⟨wd.toArray⟩) ∧ w' = w) (l : List UInt8) (v : Value) (w : World) (hw : Sh.Wr B w b l v) (ht : Sh.Tabs B w) (hle : l.length + (Pp.sayL [wd] ++ (Pp.sayL [a] ++ Pp.sayL [Pp.wSemi])).length ≤ 1000000000) :
    Calls Tryd.prog 68 #[.pointer (some ⟨b, 0, none⟩), .agg #[.int .i64 op, .int .i64 n, .string ⟨a.toArray⟩, .string ⟨b'.toArray⟩]] w fun e w' => e = .returned (.tuple #[]) ∧ (∃ v', Sh.Wr B w' b (l ++ (Pp.sayL [wd] ++ (Pp.sayL [a] ++ Pp.sayL [Pp.wSemi]))) v') ∧ Sh.Ke B w w' := by
  have HT := hide ht
  have hwz := hw.alloc (.cells #[.int .i64 op, .int .i64 n, .string ⟨a.toArray⟩, .string ⟨b'.toArray⟩] 57)
  have hkz := Sh.Ke.alloc hw.2.1 (.cells #[.int .i64 op, .int .i64 n, .string ⟨a.toArray⟩, .string ⟨b'.toArray⟩] 57)
  have hz : ∀ wx, Sh.Ke B (w.alloc (.cells #[.int .i64 op, .int .i64 n, .string ⟨a.toArray⟩, .string ⟨b'.toArray⟩] 57)) wx → ∀ j, wx.cell? ⟨w.heap.size, j, none⟩ = #[Value.int .i64 op, .int .i64 n, .string ⟨a.toArray⟩, .string ⟨b'.toArray⟩][j]? := fun wx hx j => hx.cell (heap_alloc_new w _) (by decide) (by decide) j
  have hsz : w.heap.size < (w.alloc (.cells #[.int .i64 op, .int .i64 n, .string ⟨a.toArray⟩, .string ⟨b'.toArray⟩] 57)).heap.size := by simp
  have HZ := hide hz
  have HWZ := hide hwz
  have HKZ := hide hkz
  have HO := hide hO
  have HWd := hide hWd
  simp only [List.length_append] at hle
  have HLE := hide hle
  clear hz hwz hkz hw ht hO hWd hle
  go_enter Tryd.func68, Tryd.ntmps68
  go_wp2_with fail
  generalize w.alloc (.cells #[.int .i64 op, .int .i64 n, .string ⟨a.toArray⟩, .string ⟨b'.toArray⟩] 57) = wz at *
  refine (HO.out _).mono ?_
  rintro e w1 ⟨rfl, hb1⟩
  have hk1 := Sh.Ke.below (B := B) HWZ.out.2.1 hb1
  have hs1 := Nat.lt_of_lt_of_le hsz hb1.size
  have HW1 := hide (HWZ.out.below hb1)
  have hky := hk1.trans (Sh.Ke.alloc HW1.out.2.1 (.cells #[.bool false, .int .i64 0, .int .i64 0, .int .i64 1] 116))
  have HZ2 : Hid (∀ wx, Sh.Ke B (w1.alloc (.cells #[.bool false, .int .i64 0, .int .i64 0, .int .i64 1] 116)) wx → (∀ j, wx.cell? ⟨w1.heap.size, j, none⟩ = #[Value.bool false, .int .i64 0, .int .i64 0, .int .i64 1][j]?) ∧ (∀ j, wx.cell? ⟨w.heap.size, j, none⟩ = #[Value.int .i64 op, .int .i64 n, .string ⟨a.toArray⟩, .string ⟨b'.toArray⟩][j]?)) := hide fun wx hx => ⟨fun j => hx.cell (heap_alloc_new w1 _) (by decide) (by decide) j, fun j => HZ.out _ (hky.trans hx) j⟩
  have HKY := hide (HKZ.out.trans hky)
  have HWY := hide (HW1.out.alloc (.cells #[.bool false, .int .i64 0, .int .i64 0, .int .i64 1] 116))
  have q0 : w1.cell? ⟨w.heap.size, 0, none⟩ = some (.int .i64 op) := HZ.out _ hk1 0
  clear HO hb1 hk1 hky HZ HW1 HWZ HKZ hsz
  go_wp2_with fail
  generalize w1.alloc (.cells #[.bool false, .int .i64 0, .int .i64 0, .int .i64 1] 116) = wy at *
  have HTY := hide (HT.out.on HKY.out.bel)
  refine (HWd.out _ HTY.out.ws).mono ?_
  rintro e wq ⟨rfl, hwq⟩
  subst hwq
  have HS := hide (say_new B b 1 1 [wd] #[.string ⟨wd.toArray⟩] rfl rfl l v _ HWY.out (by omega) (by have := HLE.out; omega))
  clear HWd q0
  go_wp2_with fail
  refine HS.out.mono ?_
  rintro e w2 ⟨rfl, ⟨v2, h21⟩, h22⟩
  have HK2 := hide h22
  have HW2 := hide h21
  clear h21 h22 HS HWY
  have c0 : w2.cell? ⟨w1.heap.size, 0, none⟩ = some (.bool false) := (HZ2.out _ HK2.out).1 0
  have c3 : w2.cell? ⟨w1.heap.size, 3, none⟩ = some (.int .i64 1) := (HZ2.out _ HK2.out).1 3
  have d1 : w2.cell? ⟨w.heap.size, 1, none⟩ = some (.int .i64 n) := (HZ2.out _ HK2.out).2 1
  have d2 : w2.cell? ⟨w.heap.size, 2, none⟩ = some (.string ⟨a.toArray⟩) := (HZ2.out _ HK2.out).2 2
  have d3 : w2.cell? ⟨w.heap.size, 3, none⟩ = some (.string ⟨b'.toArray⟩) := (HZ2.out _ HK2.out).2 3
  have HS := hide (say_new B b 1 1 [a] #[.string ⟨a.toArray⟩] rfl rfl _ v2 _ HW2.out (by omega) (by have := HLE.out; simp only [List.length_append, List.map_cons, List.map_nil]; omega))
  go_wp2_with fail
  refine HS.out.mono ?_
  rintro e w3 ⟨rfl, ⟨v3, h1⟩, h2⟩
  have HK3 := hide (HK2.out.trans h2)
  have HW3 := hide h1
  clear h1 h2 HS HW2 HK2 c0 c3 d1 d2 d3
  have c0 : w3.cell? ⟨w1.heap.size, 0, none⟩ = some (.bool false) := (HZ2.out _ HK3.out).1 0
  have c3 : w3.cell? ⟨w1.heap.size, 3, none⟩ = some (.int .i64 1) := (HZ2.out _ HK3.out).1 3
  have d1 : w3.cell? ⟨w.heap.size, 1, none⟩ = some (.int .i64 n) := (HZ2.out _ HK3.out).2 1
  have d2 : w3.cell? ⟨w.heap.size, 2, none⟩ = some (.string ⟨a.toArray⟩) := (HZ2.out _ HK3.out).2 2
  have d3 : w3.cell? ⟨w.heap.size, 3, none⟩ = some (.string ⟨b'.toArray⟩) := (HZ2.out _ HK3.out).2 3
  have HS := hide (say_new B b 1 1 [Pp.wSemi] #[.string ⟨#[59]⟩] rfl rfl _ v3 _ HW3.out (by omega) (by have := HLE.out; simp only [List.length_append, List.map_cons, List.map_nil]; omega))
  go_wp2_with fail
  refine HS.out.mono ?_
  rintro e w4 ⟨rfl, ⟨v4, h1⟩, h2⟩
  have HK4 := hide (HK3.out.trans h2)
  have HW4 := hide h1
  clear h1 h2 HS HW3 HK3 c0 c3 d1 d2 d3
  go_wp2_with fail
  refine bodyPost_end (v := .tuple #[]) (by simp [results, Tryd.results68, go_sem]) rfl ⟨rfl, ⟨v4, ?_⟩, HKY.out.trans HK4.out⟩
  have hh := HW4.out
  simp only [List.append_assoc, List.map_cons, List.map_nil] at hh
  simpa only [List.append_assoc] using hh

set_option maxRecDepth 100000 in
set_option maxHeartbeats 4000000 in
theorem winstr_b (B b : Nat) (op n : Int) (a b' wd : Pp.Bs) (hO : ∀ w, Calls Tryd.prog 80 #[.int .i64 op] w fun e w' => e = .returned (.agg #[.bool false, .int .i64 0, .int .i64 0, .int .i64 2]) ∧ Below w.heap.size w w') (hWd : ∀ w, TabS w → Calls Tryd.prog 81 #[.int .i64 op] w fun e w' => e = .returned (.string ⟨wd.toArray⟩) ∧ w' = w) (l : List UInt8) (v : Value) (w : World) (hw : Sh.Wr B w b l v) (ht : Sh.Tabs B w) (hle : l.length + (Pp.sayL [wd] ++ (Pp.sayL [a] ++ (Pp.sayL [b'] ++ Pp.sayL [Pp.wSemi]))).length ≤ 1000000000) :
    Calls Tryd.prog 68 #[.pointer (some ⟨b, 0, none⟩), .agg #[.int .i64 op, .int .i64 n, .string ⟨a.toArray⟩, .string ⟨b'.toArray⟩]] w fun e w' => e = .returned (.tuple #[]) ∧ (∃ v', Sh.Wr B w' b (l ++ (Pp.sayL [wd] ++ (Pp.sayL [a] ++ (Pp.sayL [b'] ++ Pp.sayL [Pp.wSemi])))) v') ∧ Sh.Ke B w w' := by
  have HT := hide ht
  have hwz := hw.alloc (.cells #[.int .i64 op, .int .i64 n, .string ⟨a.toArray⟩, .string ⟨b'.toArray⟩] 57)
  have hkz := Sh.Ke.alloc hw.2.1 (.cells #[.int .i64 op, .int .i64 n, .string ⟨a.toArray⟩, .string ⟨b'.toArray⟩] 57)
  have hz : ∀ wx, Sh.Ke B (w.alloc (.cells #[.int .i64 op, .int .i64 n, .string ⟨a.toArray⟩, .string ⟨b'.toArray⟩] 57)) wx → ∀ j, wx.cell? ⟨w.heap.size, j, none⟩ = #[Value.int .i64 op, .int .i64 n, .string ⟨a.toArray⟩, .string ⟨b'.toArray⟩][j]? := fun wx hx j => hx.cell (heap_alloc_new w _) (by decide) (by decide) j
  have hsz : w.heap.size < (w.alloc (.cells #[.int .i64 op, .int .i64 n, .string ⟨a.toArray⟩, .string ⟨b'.toArray⟩] 57)).heap.size := by simp
  have HZ := hide hz
  have HWZ := hide hwz
  have HKZ := hide hkz
  have HO := hide hO
  have HWd := hide hWd
  simp only [List.length_append] at hle
  have HLE := hide hle
  clear hz hwz hkz hw ht hO hWd hle
  go_enter Tryd.func68, Tryd.ntmps68
  go_wp2_with fail
  generalize w.alloc (.cells #[.int .i64 op, .int .i64 n, .string ⟨a.toArray⟩, .string ⟨b'.toArray⟩] 57) = wz at *
  refine (HO.out _).mono ?_
  rintro e w1 ⟨rfl, hb1⟩
  have hk1 := Sh.Ke.below (B := B) HWZ.out.2.1 hb1
  have hs1 := Nat.lt_of_lt_of_le hsz hb1.size
  have HW1 := hide (HWZ.out.below hb1)
  have hky := hk1.trans (Sh.Ke.alloc HW1.out.2.1 (.cells #[.bool false, .int .i64 0, .int .i64 0, .int .i64 2] 116))
  have HZ2 : Hid (∀ wx, Sh.Ke B (w1.alloc (.cells #[.bool false, .int .i64 0, .int .i64 0, .int .i64 2] 116)) wx → (∀ j, wx.cell? ⟨w1.heap.size, j, none⟩ = #[Value.bool false, .int .i64 0, .int .i64 0, .int .i64 2][j]?) ∧ (∀ j, wx.cell? ⟨w.heap.size, j, none⟩ = #[Value.int .i64 op, .int .i64 n, .string ⟨a.toArray⟩, .string ⟨b'.toArray⟩][j]?)) := hide fun wx hx => ⟨fun j => hx.cell (heap_alloc_new w1 _) (by decide) (by decide) j, fun j => HZ.out _ (hky.trans hx) j⟩
  have HKY := hide (HKZ.out.trans hky)
  have HWY := hide (HW1.out.alloc (.cells #[.bool false, .int .i64 0, .int .i64 0, .int .i64 2] 116))
  have q0 : w1.cell? ⟨w.heap.size, 0, none⟩ = some (.int .i64 op) := HZ.out _ hk1 0
  clear HO hb1 hk1 hky HZ HW1 HWZ HKZ hsz
  go_wp2_with fail
  generalize w1.alloc (.cells #[.bool false, .int .i64 0, .int .i64 0, .int .i64 2] 116) = wy at *
  have HTY := hide (HT.out.on HKY.out.bel)
  refine (HWd.out _ HTY.out.ws).mono ?_
  rintro e wq ⟨rfl, hwq⟩
  subst hwq
  have HS := hide (say_new B b 1 1 [wd] #[.string ⟨wd.toArray⟩] rfl rfl l v _ HWY.out (by omega) (by have := HLE.out; omega))
  clear HWd q0
  go_wp2_with fail
  refine HS.out.mono ?_
  rintro e w2 ⟨rfl, ⟨v2, h21⟩, h22⟩
  have HK2 := hide h22
  have HW2 := hide h21
  clear h21 h22 HS HWY
  have c0 : w2.cell? ⟨w1.heap.size, 0, none⟩ = some (.bool false) := (HZ2.out _ HK2.out).1 0
  have c3 : w2.cell? ⟨w1.heap.size, 3, none⟩ = some (.int .i64 2) := (HZ2.out _ HK2.out).1 3
  have d1 : w2.cell? ⟨w.heap.size, 1, none⟩ = some (.int .i64 n) := (HZ2.out _ HK2.out).2 1
  have d2 : w2.cell? ⟨w.heap.size, 2, none⟩ = some (.string ⟨a.toArray⟩) := (HZ2.out _ HK2.out).2 2
  have d3 : w2.cell? ⟨w.heap.size, 3, none⟩ = some (.string ⟨b'.toArray⟩) := (HZ2.out _ HK2.out).2 3
  have HS := hide (say_new B b 1 1 [a] #[.string ⟨a.toArray⟩] rfl rfl _ v2 _ HW2.out (by omega) (by have := HLE.out; simp only [List.length_append, List.map_cons, List.map_nil]; omega))
  go_wp2_with fail
  refine HS.out.mono ?_
  rintro e w3 ⟨rfl, ⟨v3, h1⟩, h2⟩
  have HK3 := hide (HK2.out.trans h2)
  have HW3 := hide h1
  clear h1 h2 HS HW2 HK2 c0 c3 d1 d2 d3
  have c0 : w3.cell? ⟨w1.heap.size, 0, none⟩ = some (.bool false) := (HZ2.out _ HK3.out).1 0
  have c3 : w3.cell? ⟨w1.heap.size, 3, none⟩ = some (.int .i64 2) := (HZ2.out _ HK3.out).1 3
  have d1 : w3.cell? ⟨w.heap.size, 1, none⟩ = some (.int .i64 n) := (HZ2.out _ HK3.out).2 1
  have d2 : w3.cell? ⟨w.heap.size, 2, none⟩ = some (.string ⟨a.toArray⟩) := (HZ2.out _ HK3.out).2 2
  have d3 : w3.cell? ⟨w.heap.size, 3, none⟩ = some (.string ⟨b'.toArray⟩) := (HZ2.out _ HK3.out).2 3
  have HS := hide (say_new B b 1 1 [b'] #[.string ⟨b'.toArray⟩] rfl rfl _ v3 _ HW3.out (by omega) (by have := HLE.out; simp only [List.length_append, List.map_cons, List.map_nil]; omega))
  go_wp2_with fail
  refine HS.out.mono ?_
  rintro e w4 ⟨rfl, ⟨v4, h1⟩, h2⟩
  have HK4 := hide (HK3.out.trans h2)
  have HW4 := hide h1
  clear h1 h2 HS HW3 HK3 c0 c3 d1 d2 d3
  have c0 : w4.cell? ⟨w1.heap.size, 0, none⟩ = some (.bool false) := (HZ2.out _ HK4.out).1 0
  have c3 : w4.cell? ⟨w1.heap.size, 3, none⟩ = some (.int .i64 2) := (HZ2.out _ HK4.out).1 3
  have d1 : w4.cell? ⟨w.heap.size, 1, none⟩ = some (.int .i64 n) := (HZ2.out _ HK4.out).2 1
  have d2 : w4.cell? ⟨w.heap.size, 2, none⟩ = some (.string ⟨a.toArray⟩) := (HZ2.out _ HK4.out).2 2
  have d3 : w4.cell? ⟨w.heap.size, 3, none⟩ = some (.string ⟨b'.toArray⟩) := (HZ2.out _ HK4.out).2 3
  have HS := hide (say_new B b 1 1 [Pp.wSemi] #[.string ⟨#[59]⟩] rfl rfl _ v4 _ HW4.out (by omega) (by have := HLE.out; simp only [List.length_append, List.map_cons, List.map_nil]; omega))
  go_wp2_with fail
  refine HS.out.mono ?_
  rintro e w5 ⟨rfl, ⟨v5, h1⟩, h2⟩
  have HK5 := hide (HK4.out.trans h2)
  have HW5 := hide h1
  clear h1 h2 HS HW4 HK4 c0 c3 d1 d2 d3
  go_wp2_with fail
  refine bodyPost_end (v := .tuple #[]) (by simp [results, Tryd.results68, go_sem]) rfl ⟨rfl, ⟨v5, ?_⟩, HKY.out.trans HK5.out⟩
  have hh := HW5.out
  simp only [List.append_assoc, List.map_cons, List.map_nil] at hh
  simpa only [List.append_assoc] using hh

theorem winstr_any (B b : Nat) (x : Pp.XIns) (hok : Pp.insB x = true) (l : List UInt8) (v : Value) (w : World) (hw : Sh.Wr B w b l v) (ht : Sh.Tabs B w) (hle : l.length + (Pp.wordsT (Pp.insW x.toP)).length ≤ 1000000000) :
    Calls Tryd.prog 68 #[.pointer (some ⟨b, 0, none⟩), .agg #[.int .i64 x.op, .int .i64 x.n, .string ⟨x.a.toArray⟩, .string ⟨x.b.toArray⟩]] w fun e w' => e = .returned (.tuple #[]) ∧ (∃ v', Sh.Wr B w' b (l ++ Pp.wordsT (Pp.insW x.toP)) v') ∧ Sh.Ke B w w' := by
  obtain ⟨hop, hcase⟩ := Sh.ins_cases x hok
  have hO := fun w => argsOf_any x.op w
  rcases hcase with ⟨lo, hi, e1, e2, e3⟩ | ⟨e1, e3⟩ | ⟨e1, e3⟩ | ⟨e1, e3⟩
  · rw [e1] at hO; rw [e3] at hle ⊢
    exact winstr_n B b x.op x.n x.a x.b _ lo hi hO (fun w h => Word_any x.op w h) e2 l v w hw ht hle
  · rw [e1] at hO; rw [e3] at hle ⊢
    exact winstr_z B b x.op x.n x.a x.b _ hO (fun w h => Word_any x.op w h) l v w hw ht hle
  · rw [e1] at hO; rw [e3] at hle ⊢
    exact winstr_a B b x.op x.n x.a x.b _ hO (fun w h => Word_any x.op w h) l v w hw ht hle
  · rw [e1] at hO; rw [e3] at hle ⊢
    exact winstr_b B b x.op x.n x.a x.b _ hO (fun w h => Word_any x.op w h) l v w hw ht hle

end Go.Proofs.YtdgfidaopkcjoaaDoor

namespace Go.Proofs.YtdgfidaopkcjoaaDoor
open Go.RowKit
set_option linter.unusedVariables false
set_option linter.unusedSimpArgs false

namespace Sh
theorem many_app {α : Type} (f : α → List Pp.Wd) (a b : List α) : Pp.manyW f (a ++ b) = Pp.manyW f a ++ Pp.manyW f b := by
  induction a with
  | nil => rfl
  | cons x r ih => simp only [List.cons_append, Pp.manyW, ih, List.append_assoc]
theorem manyT_take {α : Type} (f : α → List Pp.Wd) {l : List α} {k : Nat} {x : α} (h : l[k]? = some x) : Pp.wordsT (Pp.manyW f (l.take (k + 1))) = Pp.wordsT (Pp.manyW f (l.take k)) ++ Pp.wordsT (f x) := by
  rw [List.take_add_one, h, many_app, Pp.wordsT_app]; simp [Pp.manyW]
theorem manyT_le {α : Type} (f : α → List Pp.Wd) (l : List α) (k : Nat) : (Pp.wordsT (Pp.manyW f (l.take k))).length ≤ (Pp.wordsT (Pp.manyW f l)).length := by
  have h := Pp.wordsT_app (Pp.manyW f (l.take k)) (Pp.manyW f (l.drop k))
  rw [← many_app, List.take_append_drop] at h
  rw [h, List.length_append]; omega
def insF (x : Pp.XIns) : List Pp.Wd := Pp.insW x.toP
theorem many_map {α β : Type} (f : β → List Pp.Wd) (g : α → β) (l : List α) : Pp.manyW f (l.map g) = Pp.manyW (fun x => f (g x)) l := by
  induction l with
  | nil => rfl
  | cons x r ih => simp only [List.map_cons, Pp.manyW, ih]
theorem body_words (m : Pp.XMth) : Pp.wordsT (Pp.bodyW m.toP) = Pp.sayL [Pp.wLocals] ++ (Pp.sayL [Lx.intL m.locals] ++ (Pp.sayL [Pp.wLB] ++ (Pp.wordsT (Pp.manyW insF m.code) ++ (Pp.wordsT (Pp.manyW Pp.ctcW m.catches) ++ Pp.sayL [Pp.wRB])))) := by
  have e : Pp.manyW Pp.insW (m.code.map Pp.XIns.toP) = Pp.manyW insF m.code := many_map _ _ _
  unfold Pp.bodyW
  simp only [Pp.XMth.toP, Pp.wordsT_app, e]
  rfl
theorem ctc_words (c : Pp.Ctc) : Pp.wordsT (Pp.ctcW c) = Pp.sayL [Pp.wCatch, c.name] ++ (Pp.sayL [Lx.intL c.lo, Lx.intL c.hi, Lx.intL c.pc] ++ Pp.sayL [Pp.wSemi]) := by
  unfold Pp.ctcW
  simp [Pp.wordsT, Pp.sayL, wtx_nm, wtx_sg, wtx_nu]
theorem say_newg (B b c n g : Nat) (ws : List Pp.Bs) (arr : Array Value) (harr : arr = Sh.strsA ws) (hn : n = ws.length) (l : List UInt8) (v : Value) (w : World) (hg : g = w.heap.size) (hw : Sh.Wr B w b l v)
    (hn2 : n ≤ 1000000) (hle : l.length + (Pp.sayL ws).length ≤ 1000000000) :
    Calls Tryd.prog 35 #[.pointer (some ⟨b, 0, none⟩), .slice (some ⟨g, 0, none⟩) n c] (w.alloc (.cells arr 9)) fun e w' => e = .returned (.tuple #[]) ∧ (∃ v', Sh.Wr B w' b (l ++ Pp.sayL ws) v') ∧ Sh.Ke B w w' := by
  subst hg
  exact say_new B b c n ws arr harr hn l v w hw hn2 hle
/-- A row's item, wherever the world has come to. -/
theorem row_at {α : Type} {W : World} {sz : Nat} {P : α → List Value → Prop} {a : Option Addr} {n c : Nat} {l : List α} (h : RowX W sz P (.slice a n c) l) {k : Nat} {x : α} (hx : l[k]? = some x) : ∃ b o, a = some ⟨b, o, none⟩ ∧ ∃ ys, P x ys ∧ ∀ wx, Below W.heap.size W wx → ∀ (j : Nat) (u : Value), ys[j]? = some u → wx.cell? ⟨b, o + k * sz + j, none⟩ = some u := by
  obtain ⟨a', c', e, hc, h⟩ := h
  injection e with e1 e2 e3
  subst e1
  rcases h with rfl | ⟨b, o, rfl, hlt, hr⟩
  · simp at hx
  · obtain ⟨ys, h1, h2⟩ := hr k x hx
    exact ⟨b, o, rfl, ys, h1, fun wx hb j u hj => (hb.cell (by exact hlt)).trans (h2 j u hj)⟩
end Sh

set_option maxRecDepth 100000 in
set_option maxHeartbeats 8000000 in
theorem wbody_any (W : World) (b : Nat) (m : Pp.XMth) (ys : List Value) (hm : MthX W m ys) (hok : Pp.bodyB m = true) (hab : m.abst = false) (l : List UInt8) (v : Value) (w : World) (hw : Sh.Wr W.heap.size w b l v) (ht : Sh.Tabs W.heap.size w) (hbw : Below W.heap.size W w) (hle : l.length + (Pp.wordsT (Pp.bodyW m.toP)).length ≤ 1000000000) :
    Calls Tryd.prog 58 #[.pointer (some ⟨b, 0, none⟩), .agg ys.toArray] w fun e w' => e = .returned (.tuple #[]) ∧ (∃ v', Sh.Wr W.heap.size w' b (l ++ Pp.wordsT (Pp.bodyW m.toP)) v') ∧ Sh.Ke W.heap.size w w' := by
  obtain ⟨vp, vc, vk, rfl, x1, x2, x3, x4⟩ := hm
  rw [Sh.body_words] at hle ⊢
  unfold Pp.bodyB at hok
  rw [if_neg (by rw [hab]; exact Bool.false_ne_true)] at hok
  simp only [Bool.and_eq_true, Pp.withinB_iff, Pp.eachB_iff] at hok
  obtain ⟨⟨k1, k2⟩, ⟨k3, k4⟩, k5, k6⟩ := hok
  obtain ⟨n, st, ab, ps, rt, lo, co, ca⟩ := m
  simp only at x1 x2 x3 x4 k1 k2 k3 k4 k5 k6 hle hab ⊢
  subst hab
  obtain ⟨pa, pc, rfl, _⟩ := x1.len
  obtain ⟨cq, cc, rfl, _⟩ := x2.len
  obtain ⟨kq, kc, rfl, _⟩ := x3.len
  clear x1 x4
  simp only [mthXL, List.toArray]
  simp only [List.length_append] at hle
  have HLE := hide hle
  have HX2 := hide x2
  have HX3 := hide x3
  have HK4 := hide k4
  have HK6 := hide k6
  obtain ⟨n1, hn1⟩ : ∃ n1, n1 = co.length := ⟨_, rfl⟩
  obtain ⟨n2, hn2⟩ : ∃ n2, n2 = ca.length := ⟨_, rfl⟩
  have HN1 := hide hn1
  have HN2 := hide hn2
  rw [← hn1] at k3 HX2 ⊢
  rw [← hn2] at k5 HX3 ⊢
  clear hn1 hn2 hle x2 x3 k4 k6
  generalize ps.length = n3 at *
  generalize (⟨n.toArray⟩ : ByteArray) = S0 at *
  generalize (⟨rt.name.toArray⟩ : ByteArray) = S1 at *
  generalize rt.kind = rk at *
  obtain ⟨MC, hMC⟩ : ∃ MC : Array Value, MC = #[.string S0, .bool st, .bool false, .slice pa n3 pc, .int .i64 rk, .string S1, .int .i64 lo, .slice cq n1 cc, .slice kq n2 kc] := ⟨_, rfl⟩
  have hwz := hw.alloc (.cells MC 55)
  have hkz := Sh.Ke.alloc hw.2.1 (.cells MC 55)
  have hz : ∀ wx, Sh.Ke W.heap.size (w.alloc (.cells MC 55)) wx → wx.cell? ⟨w.heap.size, 6, none⟩ = some (.int .i64 lo) ∧ wx.cell? ⟨w.heap.size, 7, none⟩ = some (.slice cq n1 cc) ∧ wx.cell? ⟨w.heap.size, 8, none⟩ = some (.slice kq n2 kc) := fun wx hx => by
    have h := fun j => hx.cell (heap_alloc_new w _) (by decide) (by decide) j
    rw [hMC] at h
    exact ⟨h 6, h 7, h 8⟩
  have hbz : Below W.heap.size W (w.alloc (.cells MC 55)) := hbw.trans hkz.bel
  have HZ := hide hz
  have HWZ := hide hwz
  have HKZ := hide hkz
  have HBZ := hide hbz
  have HTZ := hide (ht.on hkz.bel)
  have hs1 := hide (Sh.say_newg W.heap.size b 1 1 (w.heap.size + 1) [Pp.wLocals] #[.string ⟨#[108, 111, 99, 97, 108, 115]⟩] rfl rfl l v _ (by simp) hwz (by omega) (by have := HLE.out; omega))
  clear hz hwz hkz hw ht hbz hbw
  rw [hMC] at HZ HWZ HKZ HBZ HTZ hs1
  clear hMC MC
  go_enter Tryd.func58, Tryd.ntmps58
  go_wp2_with fail
  refine hs1.out.mono ?_
  rintro e w1 ⟨rfl, ⟨v1, h11⟩, h12⟩
  generalize w.alloc _ = wz at *
  have HW1 := hide h11
  have HK1 := hide h12
  have q6 := (HZ.out w1 h12).1
  have HS := hide (number_new W.heap.size b 1 1 [lo] #[.int .i64 lo] rfl rfl _ v1 w1 h11 (HTZ.out.on h12.bel) (by intro x hx; simp at hx; subst hx; omega) (by omega) (by have := HLE.out; simp only [List.length_append, List.map_cons, List.map_nil]; omega))
  clear h11 h12 hs1 HWZ
  go_wp2_with fail
  refine HS.out.mono ?_
  rintro e w2 ⟨rfl, ⟨v2, h1⟩, h2⟩
  have HK2 := hide (HK1.out.trans h2)
  have HS2 := hide (say_new W.heap.size b 1 1 [Pp.wLB] #[.string ⟨#[123]⟩] rfl rfl _ v2 w2 h1 (by omega) (by have := HLE.out; simp only [List.length_append, List.map_cons, List.map_nil]; omega))
  clear h1 h2 HS HK1 HW1 q6
  go_wp2_with fail
  refine HS2.out.mono ?_
  rintro e w3 ⟨rfl, ⟨v3, h1⟩, h2⟩
  have HK3 := hide (HK2.out.trans h2)
  have q7 := (HZ.out w3 HK3.out).2.1
  simp only [List.map_cons, List.map_nil] at h1
  obtain ⟨l3, hl3⟩ : ∃ l3, l3 = l ++ Pp.sayL [Pp.wLocals] ++ Pp.sayL [Lx.intL lo] ++ Pp.sayL [Pp.wLB] := ⟨_, rfl⟩
  rw [← hl3] at h1
  have HL3 := hide hl3
  have HLE3 : Hid (l3.length + (Pp.wordsT (Pp.manyW Sh.insF co)).length + (Pp.wordsT (Pp.manyW Pp.ctcW ca)).length + (Pp.sayL [Pp.wRB]).length ≤ 1000000000) := hide (by
    have := HLE.out
    rw [hl3]
    simp only [List.length_append]
    omega)
  have HW3 := hide h1
  clear h1 h2 HS2 HK2 hl3 HLE
  go_wp2_with fail
  clear q7
  go_loopw [22] (fun i wr => ∃ (k : Nat) (v : Value), k ≤ n1 ∧ i = .int .i64 k ∧ Sh.Wr W.heap.size wr b (l3 ++ Pp.wordsT (Pp.manyW Sh.insF (co.take k))) v ∧ Sh.Ke W.heap.size wz wr) (fun i _ => n1 - (intOf i).toNat)
  case atStart => exact ⟨0, v3, Nat.zero_le _, rfl, by simpa [Pp.manyW, Pp.wordsT, Pp.sayL] using HW3.out, HK3.out⟩
  case round =>
    obtain ⟨k, v0, hk, rfl, hwr, hke⟩ := hrel
    by_cases hlt : k < n1
    · obtain ⟨x, hx⟩ : ∃ x, co[k]? = some x := ⟨co[k]'(by rw [← HN1.out]; exact hlt), List.getElem?_eq_getElem _⟩
      obtain ⟨g, o, rfl, ys, hy, hcell⟩ := Sh.row_at HX2.out hx
      obtain rfl : ys = _ := hy.1
      have hbr := HBZ.out.trans hke.bel
      have r0 := hcell wr hbr 0 _ rfl
      have r1 := hcell wr hbr 1 _ rfl
      have r2 := hcell wr hbr 2 _ rfl
      have r3 := hcell wr hbr 3 _ rfl
      rw [Nat.add_zero] at r0
      have hS := Sh.manyT_take Sh.insF hx
      have hS2 := Sh.manyT_le Sh.insF co (k + 1)
      have HA : Hid (l3 ++ Pp.wordsT (Pp.manyW Sh.insF (co.take (k + 1))) = (l3 ++ Pp.wordsT (Pp.manyW Sh.insF (co.take k))) ++ Pp.wordsT (Sh.insF x)) := hide (by rw [hS]; simp only [List.append_assoc])
      rw [hS] at hS2
      have hle2 : (l3 ++ Pp.wordsT (Pp.manyW Sh.insF (co.take k))).length + (Pp.wordsT (Sh.insF x)).length ≤ 1000000000 := by
        have := HLE3.out
        simp only [List.length_append] at hS2 ⊢
        omega
      have HI := hide (fun o => winstr_any W.heap.size b x (HK4.out x (List.mem_of_getElem? hx)) _ v0 (wr.alloc o) (hwr.alloc o) (HTZ.out.on (hke.trans (Sh.Ke.alloc hwr.2.1 o)).bel) hle2)
      have HKA := hide (fun o => hke.trans (Sh.Ke.alloc hwr.2.1 o))
      generalize l3 ++ Pp.wordsT (Pp.manyW Sh.insF (co.take k)) = acc at *
      change Hid (∀ o, Calls _ _ _ _ fun e w' => _ ∧ (∃ v', Sh.Wr W.heap.size w' b (acc ++ Pp.wordsT (Sh.insF x)) v') ∧ _) at HI
      rw [← HA.out] at HI
      clear hcell hy hx hS hS2 hle2 hbr hwr hke HA HX2 HK4
      generalize x.op = y0 at *
      generalize x.n = y1 at *
      generalize (⟨x.a.toArray⟩ : ByteArray) = y2 at *
      generalize (⟨x.b.toArray⟩ : ByteArray) = y3 at *
      have hlt' : (k : Int) < (n1 : Int) := by omega
      go_wp2_with fail
      refine (HI.out _).mono ?_
      rintro e w4 ⟨rfl, ⟨v4, h41⟩, h42⟩
      have HW4 := hide h41
      have HK4' := hide ((HKA.out _).trans h42)
      clear h41 h42 HI HKA r0 r1 r2 r3
      go_wp2_with fail
      go_roundw
      case rel => exact ⟨k + 1, v4, by omega, by go_num, HW4.out, HK4'.out⟩
      case measure => simp [intOf]; omega
    · rw [List.take_of_length_le (by rw [← HN1.out]; omega)] at hwr
      have HW4 := hide hwr
      have HK4' := hide hke
      have q8 := (HZ.out wr hke).2.2
      clear hwr hke HW3 HK3 HX2 HK4 HN1
      obtain ⟨wo, rfl⟩ : ∃ wo : World, wo = wr := ⟨_, rfl⟩
      go_wp2_with fail
      clear hk hlt
      obtain ⟨l4, hl4⟩ : ∃ l4, l4 = l3 ++ Pp.wordsT (Pp.manyW Sh.insF co) := ⟨_, rfl⟩
      have HL4 := hide hl4
      rw [← hl4] at HW4
      have HLE4 : Hid (l4.length + (Pp.wordsT (Pp.manyW Pp.ctcW ca)).length + (Pp.sayL [Pp.wRB]).length ≤ 1000000000) := hide (by
        have := HLE3.out
        rw [hl4, List.length_append]
        omega)
      clear hl4 HLE3 q8
      go_loopw [33] (fun i wr => ∃ (k : Nat) (v : Value), k ≤ n2 ∧ i = .int .i64 k ∧ Sh.Wr W.heap.size wr b (l4 ++ Pp.wordsT (Pp.manyW Pp.ctcW (ca.take k))) v ∧ Sh.Ke W.heap.size wz wr) (fun i _ => n2 - (intOf i).toNat)
      case atStart => exact ⟨0, v0, Nat.zero_le _, rfl, by simpa [Pp.manyW, Pp.wordsT, Pp.sayL] using HW4.out, HK4'.out⟩
      case round =>
        clear HW4 HK4'
        obtain ⟨kk, vv, hk, rfl, hwr, hke⟩ := hrel
        by_cases hlt : kk < n2
        · obtain ⟨x, hx⟩ : ∃ x, ca[kk]? = some x := ⟨ca[kk]'(by rw [← HN2.out]; exact hlt), List.getElem?_eq_getElem _⟩
          obtain ⟨g, o, rfl, ys, hy, hcell⟩ := Sh.row_at HX3.out hx
          obtain rfl : ys = _ := hy.1
          have hbr := HBZ.out.trans hke.bel
          have r0 := hcell wr hbr 0 _ rfl
          have r1 := hcell wr hbr 1 _ rfl
          have r2 := hcell wr hbr 2 _ rfl
          have r3 := hcell wr hbr 3 _ rfl
          rw [Nat.add_zero] at r0
          have hS := Sh.manyT_take Pp.ctcW hx
          have hS2 := Sh.manyT_le Pp.ctcW ca (kk + 1)
          rw [Sh.ctc_words] at hS
          have HA : Hid (l4 ++ Pp.wordsT (Pp.manyW Pp.ctcW (ca.take (kk + 1))) = (l4 ++ Pp.wordsT (Pp.manyW Pp.ctcW (ca.take kk))) ++ (Pp.sayL [Pp.wCatch, x.name] ++ (Pp.sayL [Lx.intL x.lo, Lx.intL x.hi, Lx.intL x.pc] ++ Pp.sayL [Pp.wSemi]))) := hide (by rw [hS]; simp only [List.append_assoc])
          rw [hS] at hS2
          have HLx : Hid ((l4 ++ Pp.wordsT (Pp.manyW Pp.ctcW (ca.take kk))).length + (Pp.sayL [Pp.wCatch, x.name]).length + (Pp.sayL [Lx.intL x.lo, Lx.intL x.hi, Lx.intL x.pc]).length + (Pp.sayL [Pp.wSemi]).length ≤ 1000000000) := hide (by
            have := HLE4.out
            simp only [List.length_append] at hS2 ⊢
            omega)
          have hco : Pp.okCtc x := (Pp.ctcB_iff x).1 (HK6.out x (List.mem_of_getElem? hx))
          have HR : Hid (∀ m ∈ [x.lo, x.hi, x.pc], -2147483648 ≤ m ∧ m ≤ 2147483647) := hide (by
            obtain ⟨_, z1, z2, z3⟩ := hco
            intro m hm
            simp at hm
            rcases hm with rfl | rfl | rfl <;> omega)
          generalize l4 ++ Pp.wordsT (Pp.manyW Pp.ctcW (ca.take kk)) = acc at *
          have hwz2 := hwr.alloc (.cells #[.string ⟨x.name.toArray⟩, .int .i64 x.lo, .int .i64 x.hi, .int .i64 x.pc] 59)
          have hkz2 := hke.trans (Sh.Ke.alloc hwr.2.1 (.cells #[.string ⟨x.name.toArray⟩, .int .i64 x.lo, .int .i64 x.hi, .int .i64 x.pc] 59))
          have hz2 : ∀ wx, Sh.Ke W.heap.size (wr.alloc (.cells #[.string ⟨x.name.toArray⟩, .int .i64 x.lo, .int .i64 x.hi, .int .i64 x.pc] 59)) wx → ∀ j, wx.cell? ⟨wr.heap.size, j, none⟩ = #[Value.string ⟨x.name.toArray⟩, .int .i64 x.lo, .int .i64 x.hi, .int .i64 x.pc][j]? := fun wx hx j => hx.cell (heap_alloc_new wr _) (by decide) (by decide) j
          have HS := hide (Sh.say_newg W.heap.size b 2 2 (wr.heap.size + 1) [Pp.wCatch, x.name] #[.string ⟨#[99, 97, 116, 99, 104]⟩, .string ⟨x.name.toArray⟩] rfl rfl _ vv _ (by simp) hwz2 (by omega) (by have := HLx.out; omega))
          have HZ2 := hide hz2
          have HKz2 := hide hkz2
          have HTz2 := hide (HTZ.out.on hkz2.bel)
          clear hcell hy hx hS hS2 hbr hwr hke HX3 HK6 hco hwz2 hkz2 hz2
          have hlt' : (kk : Int) < (n2 : Int) := by omega
          go_wp2_with fail
          refine HS.out.mono ?_
          rintro e w4 ⟨rfl, ⟨v4, h41⟩, h42⟩
          have d1 : w4.cell? ⟨wr.heap.size, 1, none⟩ = some (.int .i64 x.lo) := HZ2.out w4 h42 1
          have d2 : w4.cell? ⟨wr.heap.size, 2, none⟩ = some (.int .i64 x.hi) := HZ2.out w4 h42 2
          have d3 : w4.cell? ⟨wr.heap.size, 3, none⟩ = some (.int .i64 x.pc) := HZ2.out w4 h42 3
          have HS2 := hide (number_new W.heap.size b 3 3 [x.lo, x.hi, x.pc] #[.int .i64 x.lo, .int .i64 x.hi, .int .i64 x.pc] rfl rfl _ v4 w4 h41 (HTz2.out.on h42.bel) HR.out (by omega) (by have := HLx.out; simp only [List.length_append, List.map_cons, List.map_nil]; omega))
          have HK4x := hide (HKz2.out.trans h42)
          clear h41 h42 HS HKz2 r0 r1 r2 r3 HZ2
          go_wp2_with fail
          refine HS2.out.mono ?_
          rintro e w5 ⟨rfl, ⟨v5, h51⟩, h52⟩
          simp only [List.map_cons, List.map_nil] at h51
          have HS3 := hide (say_new W.heap.size b 1 1 [Pp.wSemi] #[.string ⟨#[59]⟩] rfl rfl _ v5 w5 h51 (by omega) (by have := HLx.out; simp only [List.length_append]; omega))
          have HK5x := hide (HK4x.out.trans h52)
          clear h51 h52 HS2 HK4x d1 d2 d3
          go_wp2_with fail
          refine HS3.out.mono ?_
          rintro e w6 ⟨rfl, ⟨v6, h61⟩, h62⟩
          rw [List.append_assoc, List.append_assoc, ← HA.out] at h61
          have HW6 := hide h61
          have HK6x := hide (HK5x.out.trans h62)
          clear h61 h62 HS3 HK5x HA HLx HR
          go_wp2_with fail
          go_roundw
          case rel => exact ⟨kk + 1, v6, by omega, by go_num, HW6.out, HK6x.out⟩
          case measure => simp [intOf]; omega
        · rw [List.take_of_length_le (by rw [← HN2.out]; omega)] at hwr
          have HS := hide (say_new W.heap.size b 1 1 [Pp.wRB] #[.string ⟨#[125]⟩] rfl rfl _ vv wr hwr (by omega) (by have := HLE4.out; rw [List.length_append]; omega))
          have HKe := hide hke
          clear hwr hke
          go_wp2_with fail
          refine HS.out.mono ?_
          rintro e w6 ⟨rfl, ⟨v6, h61⟩, h62⟩
          have HW6 := hide h61
          have HK6' := hide (HKZ.out.trans (HKe.out.trans h62))
          clear h61 h62 HS HKe
          go_wp2_with fail
          refine bodyPost_end (v := .tuple #[]) (by simp [results, Tryd.results58, go_sem]) rfl ⟨rfl, ⟨v6, ?_⟩, HK6'.out⟩
          have hh := HW6.out
          rw [HL4.out, HL3.out] at hh
          simpa only [List.append_assoc] using hh

end Go.Proofs.YtdgfidaopkcjoaaDoor

namespace Go.Proofs.YtdgfidaopkcjoaaDoor
open Go.RowKit
set_option linter.unusedVariables false
set_option linter.unusedSimpArgs false

namespace Sh
theorem more_app {α : Type} (f : α → List Pp.Wd) (l : List α) (x : α) : Pp.moreW f (l ++ [x]) = Pp.moreW f l ++ (Pp.sg Pp.wComma :: f x) := by
  induction l with
  | nil => simp [Pp.moreW]
  | cons y r ih => simp only [List.cons_append, Pp.moreW, ih, List.append_assoc]
theorem comma_app {α : Type} (f : α → List Pp.Wd) (l : List α) (x : α) : Pp.commaW f (l ++ [x]) = Pp.commaW f l ++ ((if l = [] then [] else [Pp.sg Pp.wComma]) ++ f x) := by
  cases l with
  | nil => simp [Pp.commaW, Pp.moreW]
  | cons y r => simp [Pp.commaW, more_app]
theorem commaT_take {α : Type} (f : α → List Pp.Wd) {l : List α} {k : Nat} {x : α} (h : l[k]? = some x) : Pp.wordsT (Pp.commaW f (l.take (k + 1))) = Pp.wordsT (Pp.commaW f (l.take k)) ++ ((if k = 0 then [] else Pp.sayL [[44]]) ++ Pp.wordsT (f x)) := by
  have hk : k < l.length := by
    rcases Nat.lt_or_ge k l.length with h1 | h1
    · exact h1
    · rw [List.getElem?_eq_none h1] at h; cases h
  rw [List.take_add_one, h]
  show Pp.wordsT (Pp.commaW f (l.take k ++ [x])) = _
  rw [comma_app, Pp.wordsT_app, Pp.wordsT_app]
  by_cases h0 : k = 0
  · subst h0; simp [Pp.wordsT, Pp.sayL]
  · have hne : ¬ l.take k = [] := by
      intro e
      have := congrArg List.length e
      rw [List.length_take, Nat.min_eq_left (by omega)] at this
      simp at this
      omega
    rw [if_neg h0, if_neg hne]
    rfl
theorem comma_le {α : Type} (f : α → List Pp.Wd) : ∀ (l m : List α), ∃ r, Pp.commaW f (l ++ m) = Pp.commaW f l ++ r
  | l, [] => ⟨[], by simp⟩
  | l, x :: m => by
    obtain ⟨r, hr⟩ := comma_le f (l ++ [x]) m
    refine ⟨((if l = [] then [] else [Pp.sg Pp.wComma]) ++ f x) ++ r, ?_⟩
    have e : l ++ x :: m = (l ++ [x]) ++ m := by simp
    rw [e, hr, comma_app, List.append_assoc]
theorem commaT_le {α : Type} (f : α → List Pp.Wd) (l : List α) (k : Nat) : (Pp.wordsT (Pp.commaW f (l.take k))).length ≤ (Pp.wordsT (Pp.commaW f l)).length := by
  obtain ⟨r, hr⟩ := comma_le f (l.take k) (l.drop k)
  rw [List.take_append_drop] at hr
  rw [hr, Pp.wordsT_app, List.length_append]; omega
def mthF (m : Pp.XMth) : List Pp.Wd := Pp.mthW m.toP
theorem mth_words (m : Pp.XMth) : Pp.wordsT (mthF m) = Pp.sayL [if m.stat = true then Pp.wFunction else Pp.wMethod, m.name, Pp.wLP] ++ (Pp.wordsT (Pp.commaW Pp.tyW m.params) ++ (Pp.sayL [Pp.wRP] ++ (Pp.sayL (tyS m.ret) ++ (if m.abst = true then Pp.sayL [Pp.wSemi] else Pp.wordsT (Pp.bodyW m.toP))))) := by
  obtain ⟨n, st, ab, ps, rt, lo, co, ca⟩ := m
  unfold mthF Pp.mthW
  simp only [Pp.XMth.toP, Pp.wordsT_app]
  cases ab with
  | true => simp [Pp.wordsT, Pp.sayL, wtx_nm, wtx_sg, tyS]; rfl
  | false => simp [Pp.wordsT, Pp.sayL, wtx_nm, wtx_sg, tyS]; rfl
end Sh

set_option maxRecDepth 100000 in
set_option maxHeartbeats 8000000 in
theorem wmethod_any (W : World) (b : Nat) (m : Pp.XMth) (ys : List Value) (hm : MthX W m ys) (hok : Pp.mthB m = true) (l : List UInt8) (v : Value) (w : World) (hw : Sh.Wr W.heap.size w b l v) (ht : Sh.Tabs W.heap.size w) (hbw : Below W.heap.size W w) (hle : l.length + (Pp.wordsT (Sh.mthF m)).length ≤ 1000000000) :
    Calls Tryd.prog 39 #[.pointer (some ⟨b, 0, none⟩), .agg ys.toArray] w fun e w' => e = .returned (.tuple #[]) ∧ (∃ v', Sh.Wr W.heap.size w' b (l ++ Pp.wordsT (Sh.mthF m)) v') ∧ Sh.Ke W.heap.size w w' := by
  have hBd := hide (fun (hab : m.abst = false) (hbo : Pp.bodyB m = true) (l : List UInt8) v w hw ht hbw hle => wbody_any W b m ys hm hbo hab l v w hw ht hbw hle)
  obtain ⟨vp, vc, vk, rfl, x1, x2, x3, x4⟩ := hm
  rw [Sh.mth_words] at hle ⊢
  unfold Pp.mthB at hok
  simp only [Bool.and_eq_true, Pp.eachB_iff, Pp.typeB_iff] at hok
  obtain ⟨k1, ⟨k2, k3⟩, k4, k5⟩ := hok
  have HB5 := hide k5
  generalize hBW : Pp.wordsT (Pp.bodyW m.toP) = BW at *
  clear hBW k1 k5
  obtain ⟨n, st, ab, ps, rt, lo, co, ca⟩ := m
  simp only at x1 x2 x3 x4 k2 k3 k4 hle hBd ⊢
  have hT := hide (fun w => typeWords_any rt k4 w)
  have hTl := tyS_len rt
  obtain ⟨pa, pc, rfl, _⟩ := x1.len
  obtain ⟨cq, cc, rfl, _⟩ := x2.len
  obtain ⟨kq, kc, rfl, _⟩ := x3.len
  clear x2 x3 x4
  obtain ⟨S0, hS0⟩ : ∃ S0 : ByteArray, S0 = ⟨n.toArray⟩ := ⟨_, rfl⟩
  have HS0 := hide hS0
  simp only [mthXL] at hBd ⊢
  rw [← hS0] at hBd ⊢
  simp only [List.toArray] at hBd ⊢
  clear hS0
  simp only [List.length_append] at hle
  have HLE := hide hle
  have HX1 := hide x1
  have HK3 := hide k3
  obtain ⟨n3, hn3⟩ : ∃ n3, n3 = ps.length := ⟨_, rfl⟩
  have HN3 := hide hn3
  rw [← hn3] at k2 HX1 hBd ⊢
  clear hn3 hle x1 k3 k4
  generalize co.length = n1 at *
  generalize ca.length = n2 at *
  generalize Sh.tyS rt = ts at *
  obtain ⟨l1, hl1⟩ : ∃ l1, l1 = Pp.sayL [if st = true then Pp.wFunction else Pp.wMethod, n, Pp.wLP] := ⟨_, rfl⟩
  rw [← hl1] at HLE ⊢
  have HL1 := hide hl1
  clear hl1
  generalize (⟨rt.name.toArray⟩ : ByteArray) = S1 at *
  generalize rt.kind = rk at *
  have hE := hide (fun w => either_any st ⟨Pp.wFunction.toArray⟩ ⟨Pp.wMethod.toArray⟩ w)
  obtain ⟨MC, hMC⟩ : ∃ MC : Array Value, MC = #[.string S0, .bool st, .bool ab, .slice pa n3 pc, .int .i64 rk, .string S1, .int .i64 lo, .slice cq n1 cc, .slice kq n2 kc] := ⟨_, rfl⟩
  have hwz := hw.alloc (.cells MC 55)
  have hkz := Sh.Ke.alloc hw.2.1 (.cells MC 55)
  have hz : ∀ wx, Sh.Ke W.heap.size (w.alloc (.cells MC 55)) wx → ∀ j, wx.cell? ⟨w.heap.size, j, none⟩ = MC[j]? := fun wx hx j => hx.cell (heap_alloc_new w _) (by decide) (by decide) j
  have hbz : Below W.heap.size W (w.alloc (.cells MC 55)) := hbw.trans hkz.bel
  have HZ := hide hz
  have HWZ := hide hwz
  have HKZ := hide hkz
  have HBZ := hide hbz
  have HTZ := hide (ht.on hkz.bel)
  clear hz hwz hkz hw ht hbz hbw
  rw [hMC] at HZ HWZ HKZ HBZ HTZ
  clear hMC MC
  go_enter Tryd.func39, Tryd.ntmps39
  go_wp2_with fail
  generalize w.alloc _ = wz at *
  have hK : Hid (∀ wx, Sh.Ke W.heap.size wz wx → wx.cell? ⟨w.heap.size, 0, none⟩ = some (.string S0) ∧ wx.cell? ⟨w.heap.size, 1, none⟩ = some (.bool st)) := hide fun wx hx => ⟨HZ.out wx hx 0, HZ.out wx hx 1⟩
  have hD : Hid (Sh.Ke W.heap.size wz wz.drew) := hide (Sh.Ke.drew _ _)
  have hA : Hid (∀ o, Sh.Ke W.heap.size wz (wz.alloc o).drew) := hide fun o => (Sh.Ke.alloc HWZ.out.2.1 o).trans (Sh.Ke.drew _ _)
  have HS : Hid (Calls Tryd.prog 35 #[.pointer (some ⟨b, 0, none⟩), .slice (some ⟨wz.heap.size, 0, none⟩) 3 3] (wz.alloc (.cells #[.string (if st = true then ⟨Pp.wFunction.toArray⟩ else ⟨Pp.wMethod.toArray⟩), .string S0, .string ⟨#[40]⟩] 9)).drew fun e w' => e = .returned (.tuple #[]) ∧ (∃ v', Sh.Wr W.heap.size w' b (l ++ l1) v') ∧ Sh.Ke W.heap.size (wz.alloc (.cells #[.string (if st = true then ⟨Pp.wFunction.toArray⟩ else ⟨Pp.wMethod.toArray⟩), .string S0, .string ⟨#[40]⟩] 9)).drew w') :=
    hide (by rw [HL1.out] at HLE ⊢; exact say_blk W.heap.size b wz.heap.size 3 3 _ _ (by rw [HS0.out]; cases st <;> rfl) rfl l v _ ((HWZ.out.alloc _).drew) (heap_alloc_new wz _) (by omega) (by have := HLE.out; omega))
  generalize hkw : (if st = true then (⟨Pp.wFunction.toArray⟩ : ByteArray) else ⟨Pp.wMethod.toArray⟩) = KW at *
  clear hkw HL1
  go_region_held (fun wx => wx.cell? ⟨w.heap.size, 0, none⟩ = some (.string S0) ∧ wx.cell? ⟨w.heap.size, 1, none⟩ = some (.bool st)) (first | exact hK.out _ HK6.out | exact hK.out _ hD.out | exact hK.out _ (hA.out _))
    (first | (go_at_call 36; refine (hE.out _).mono ?_; rintro e w5 ⟨rfl, hw5⟩; subst hw5) | (go_at_call 35; refine HS.out.mono ?_; rintro e w6 ⟨rfl, h61, h62⟩; have HK6 : Hid (Sh.Ke W.heap.size wz w6) := hide ((hA.out _).trans h62); have HW6 := hide h61; clear h61 h62))
  obtain ⟨v6, hW6⟩ := HW6.out
  have HW6' := hide hW6
  have q3 : w6.cell? ⟨w.heap.size, 3, none⟩ = some (.slice pa n3 pc) := HZ.out w6 HK6.out 3
  clear hW6 HW6 hK hD hA HS hE HWZ
  go_wp2_with fail
  clear q3
  go_loopw [17] (fun i wr => ∃ (k : Nat) (v : Value), k ≤ n3 ∧ i = .int .i64 k ∧ Sh.Wr W.heap.size wr b ((l ++ l1) ++ Pp.wordsT (Pp.commaW Pp.tyW (ps.take k))) v ∧ Sh.Ke W.heap.size wz wr) (fun i _ => n3 - (intOf i).toNat)
  case atStart => exact ⟨0, v6, Nat.zero_le _, rfl, by simpa [Pp.commaW, Pp.wordsT, Pp.sayL] using HW6'.out, HK6.out⟩
  case round =>
    clear HW6' HK6
    obtain ⟨k, v0, hk, rfl, hwr, hke⟩ := hrel
    by_cases hlt : k < n3
    · obtain ⟨x, hx⟩ : ∃ x, ps[k]? = some x := ⟨ps[k]'(by rw [← HN3.out]; exact hlt), List.getElem?_eq_getElem _⟩
      obtain ⟨g, o, rfl, ys, hy, hcell⟩ := Sh.row_at HX1.out hx
      obtain rfl : ys = _ := hy.1
      have hbr := HBZ.out.trans hke.bel
      have r0 := hcell wr hbr 0 _ rfl
      have r1 := hcell wr hbr 1 _ rfl
      rw [Nat.add_zero] at r0
      have hS := Sh.commaT_take Pp.tyW hx
      have hS2 := Sh.commaT_le Pp.tyW ps (k + 1)
      have HA : Hid ((l ++ l1) ++ Pp.wordsT (Pp.commaW Pp.tyW (ps.take (k + 1))) = ((l ++ l1) ++ Pp.wordsT (Pp.commaW Pp.tyW (ps.take k))) ++ ((if k = 0 then [] else Pp.sayL [[44]]) ++ Pp.sayL (Sh.tyS x))) := hide (by rw [hS]; simp only [List.append_assoc]; rfl)
      rw [hS] at hS2
      have hTx := hide (fun w => typeWords_any x (HK3.out x (List.mem_of_getElem? hx)) w)
      have hTxl := tyS_len x
      have HLx : Hid (((l ++ l1) ++ Pp.wordsT (Pp.commaW Pp.tyW (ps.take k))).length + (if k = 0 then [] else Pp.sayL [[44]]).length + (Pp.sayL (Sh.tyS x)).length + 2 ≤ 1000000000) := hide (by
        have h1 := HLE.out
        have h2 : Pp.wordsT (Pp.tyW x) = Pp.sayL (Sh.tyS x) := rfl
        rw [h2] at hS2
        have h3 : (Pp.sayL [Pp.wRP]).length = 2 := rfl
        simp only [List.length_append] at hS2 ⊢
        omega)
      generalize (l ++ l1) ++ Pp.wordsT (Pp.commaW Pp.tyW (ps.take k)) = acc at *
      have hwz2 := hwr.alloc (.cells #[.int .i64 x.kind, .string ⟨x.name.toArray⟩] 26)
      have hkz2 := hke.trans (Sh.Ke.alloc hwr.2.1 (.cells #[.int .i64 x.kind, .string ⟨x.name.toArray⟩] 26))
      have hz2 : ∀ wx, Sh.Ke W.heap.size (wr.alloc (.cells #[.int .i64 x.kind, .string ⟨x.name.toArray⟩] 26)) wx → ∀ j, wx.cell? ⟨wr.heap.size, j, none⟩ = #[Value.int .i64 x.kind, .string ⟨x.name.toArray⟩][j]? := fun wx hx j => hx.cell (heap_alloc_new wr _) (by decide) (by decide) j
      have HS := hide (comma_any W.heap.size b k acc v0 _ hwz2 (by omega) (by have := HLx.out; omega))
      have HZ2 := hide hz2
      have HKz2 := hide hkz2
      clear hcell hy hx hS hS2 hbr hwr hke HX1 HK3 hwz2 hkz2 hz2
      have hlt' : (k : Int) < (n3 : Int) := by omega
      generalize Sh.tyS x = tx at *
      go_wp2_with fail
      refine HS.out.mono ?_
      rintro e w4 ⟨rfl, ⟨v4, h41⟩, h42⟩
      have d0 : w4.cell? ⟨wr.heap.size, 0, none⟩ = some (.int .i64 x.kind) := HZ2.out w4 h42 0
      have d1 : w4.cell? ⟨wr.heap.size, 1, none⟩ = some (.string ⟨x.name.toArray⟩) := HZ2.out w4 h42 1
      have HW4 := hide h41
      have HK4 := hide (HKz2.out.trans h42)
      clear h41 h42 HS HKz2 HZ2 r0 r1
      go_wp2_with fail
      refine (hTx.out _).mono ?_
      rintro e w5 ⟨g5, rfl, hg5, hb5⟩
      have HS5 := hide (say_type W.heap.size b g5 tx _ v4 w5 (HW4.out.below hb5) hg5 hTxl (by have := HLx.out; rw [List.length_append]; omega))
      have HK5 := hide (HK4.out.trans (Sh.Ke.below HW4.out.2.1 hb5))
      clear hg5 hb5 HW4 HK4 d0 d1 hTx
      go_wp2_with fail
      refine HS5.out.mono ?_
      rintro e w7 ⟨rfl, ⟨v7, h71⟩, h72⟩
      rw [List.append_assoc, ← HA.out] at h71
      have HW7 := hide h71
      have HK7 := hide (HK5.out.trans h72)
      clear h71 h72 HS5 HK5 HA HLx
      go_wp2_with fail
      go_roundw
      case rel => exact ⟨k + 1, v7, by omega, by go_num, HW7.out, HK7.out⟩
      case measure => simp [intOf]; omega
    · rw [List.take_of_length_le (by rw [← HN3.out]; omega)] at hwr
      have HS := hide (say_new W.heap.size b 1 1 [Pp.wRP] #[.string ⟨#[41]⟩] rfl rfl _ v0 wr hwr (by omega) (by have := HLE.out; simp only [List.length_append]; omega))
      have HKe := hide hke
      clear hwr hke HX1 HK3
      go_wp2_with fail
      refine HS.out.mono ?_
      rintro e w4 ⟨rfl, ⟨v4, h41⟩, h42⟩
      have HW4 := hide h41
      have HK4 := hide (HKe.out.trans h42)
      have d4 : w4.cell? ⟨w.heap.size, 4, none⟩ = some (.int .i64 rk) := HZ.out w4 HK4.out 4
      have d5 : w4.cell? ⟨w.heap.size, 5, none⟩ = some (.string S1) := HZ.out w4 HK4.out 5
      clear h41 h42 HS HKe
      go_wp2_with fail
      refine (hT.out _).mono ?_
      rintro e w5 ⟨g5, rfl, hg5, hb5⟩
      have HS5 := hide (say_type W.heap.size b g5 ts _ v4 w5 (HW4.out.below hb5) hg5 hTl (by have := HLE.out; simp only [List.length_append]; omega))
      have HK5 := hide (HK4.out.trans (Sh.Ke.below HW4.out.2.1 hb5))
      clear hg5 hb5 HW4 HK4 d4 d5 hT
      go_wp2_with fail
      refine HS5.out.mono ?_
      rintro e w7 ⟨rfl, ⟨v7, h71⟩, h72⟩
      have HW7 := hide h71
      have HK7 := hide (HK5.out.trans h72)
      clear h71 h72 HS5 HK5
      have p2 : w7.cell? ⟨w.heap.size, 2, none⟩ = some (.bool ab) := HZ.out w7 HK7.out 2
      cases ab with
      | true =>
        have HS8 := hide (say_new W.heap.size b 1 1 [Pp.wSemi] #[.string ⟨#[59]⟩] rfl rfl _ v7 w7 HW7.out (by omega) (by have := HLE.out; simp only [List.length_append, if_true] at this ⊢; omega))
        go_wp2_with fail
        refine HS8.out.mono ?_
        rintro e w8 ⟨rfl, ⟨v8, h81⟩, h82⟩
        have HW8 := hide h81
        have HK8 := hide (HKZ.out.trans (HK7.out.trans h82))
        clear h81 h82 HS8
        go_wp2_with fail
        refine bodyPost_ret (v := .tuple #[]) (by simp [results, Tryd.results39, go_sem]) rfl ⟨rfl, ⟨v8, ?_⟩, HK8.out⟩
        have hh := HW8.out
        simpa only [List.append_assoc, if_true] using hh
      | false =>
        have HS8 := hide (hBd.out rfl HB5.out _ v7 w7 HW7.out (HTZ.out.on HK7.out.bel) (HBZ.out.trans HK7.out.bel) (by have := HLE.out; simp only [List.length_append, Bool.false_eq_true, if_false] at this ⊢; omega))
        have p0 : w7.cell? ⟨w.heap.size, 0, none⟩ = some (.string S0) := HZ.out w7 HK7.out 0
        have p1 : w7.cell? ⟨w.heap.size, 1, none⟩ = some (.bool st) := HZ.out w7 HK7.out 1
        have p3 : w7.cell? ⟨w.heap.size, 3, none⟩ = some (.slice pa n3 pc) := HZ.out w7 HK7.out 3
        have p4 : w7.cell? ⟨w.heap.size, 4, none⟩ = some (.int .i64 rk) := HZ.out w7 HK7.out 4
        have p5 : w7.cell? ⟨w.heap.size, 5, none⟩ = some (.string S1) := HZ.out w7 HK7.out 5
        have p6 : w7.cell? ⟨w.heap.size, 6, none⟩ = some (.int .i64 lo) := HZ.out w7 HK7.out 6
        have p7 : w7.cell? ⟨w.heap.size, 7, none⟩ = some (.slice cq n1 cc) := HZ.out w7 HK7.out 7
        have p8 : w7.cell? ⟨w.heap.size, 8, none⟩ = some (.slice kq n2 kc) := HZ.out w7 HK7.out 8
        go_wp2_with fail
        refine HS8.out.mono ?_
        rintro e w8 ⟨rfl, ⟨v8, h81⟩, h82⟩
        have HW8 := hide h81
        have HK8 := hide (HKZ.out.trans (HK7.out.trans h82))
        clear h81 h82 HS8 p0 p1 p2 p3 p4 p5 p6 p7 p8
        go_wp2_with fail
        refine bodyPost_end (v := .tuple #[]) (by simp [results, Tryd.results39, go_sem]) rfl ⟨rfl, ⟨v8, ?_⟩, HK8.out⟩
        have hh := HW8.out
        simpa only [List.append_assoc, Bool.false_eq_true, if_false] using hh

end Go.Proofs.YtdgfidaopkcjoaaDoor

namespace Go.Proofs.YtdgfidaopkcjoaaDoor
open Go.RowKit
set_option linter.unusedVariables false
set_option linter.unusedSimpArgs false

namespace Sh
def nmW (s : Pp.Bs) : List Pp.Wd := [Pp.nm s]
def clsF (c : Pp.XCls) : List Pp.Wd := Pp.clsW c.toP
theorem cls_words (c : Pp.XCls) : Pp.wordsT (clsF c) = Pp.sayL [if c.iface = true then Pp.wInterface else Pp.wClass, c.name] ++ ((if c.super = [] then [] else Pp.sayL [Pp.wExtends, c.super]) ++ ((if c.ifaces = [] then [] else Pp.sayL [if c.iface = true then Pp.wExtends else Pp.wImplements]) ++ (Pp.wordsT (Pp.commaW nmW c.ifaces) ++ (Pp.sayL [Pp.wLB] ++ (Pp.wordsT (Pp.manyW Pp.fldW c.fields) ++ (Pp.wordsT (Pp.manyW mthF c.methods) ++ Pp.sayL [Pp.wRB])))))) := by
  obtain ⟨n, ic, su, ifs, fs, ms⟩ := c
  have e : Pp.manyW Pp.mthW (ms.map Pp.XMth.toP) = Pp.manyW mthF ms := many_map _ _ _
  unfold clsF Pp.clsW Pp.supW Pp.ifsW
  simp only [Pp.XCls.toP, Pp.wordsT_app, e]
  by_cases h1 : su = []
  · by_cases h2 : ifs = []
    · subst h1 h2; simp [Pp.wordsT, Pp.sayL, wtx_nm, wtx_sg, Pp.commaW]; rfl
    · subst h1; simp [Pp.wordsT, Pp.sayL, wtx_nm, wtx_sg, h2]; rfl
  · by_cases h2 : ifs = []
    · subst h2; simp [Pp.wordsT, Pp.sayL, wtx_nm, wtx_sg, Pp.commaW, h1]; rfl
    · simp [Pp.wordsT, Pp.sayL, wtx_nm, wtx_sg, h1, h2]; rfl
end Sh

end Go.Proofs.YtdgfidaopkcjoaaDoor

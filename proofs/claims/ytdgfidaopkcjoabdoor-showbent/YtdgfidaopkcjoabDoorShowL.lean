/- What show's writer says of numbers and types. -/
import Derived.Test.YtdgfidaopkcjoabDoorShowK
import Derived.Test.YtdgfidaopkcjoabDoorShelf
import Derived.WalkSmall
namespace Go.Proofs.YtdgfidaopkcjoabDoor
open Go.RowKit
set_option linter.unusedVariables false
set_option linter.unusedSimpArgs false

namespace Sh
def strsA (ws : List Pp.Bs) : Array Value := (ws.map fun s => Value.string ⟨s.toArray⟩).toArray
end Sh
theorem say_new (B b c n : Nat) (ws : List Pp.Bs) (arr : Array Value) (harr : arr = Sh.strsA ws) (hn : n = ws.length) (l : List UInt8) (v : Value) (w : World) (hw : Sh.Wr B w b l v)
    (hn2 : n ≤ 1000000) (hle : l.length + (Pp.sayL ws).length ≤ 1000000000) :
    Calls Tryd.prog 27 #[.pointer (some ⟨b, 0, none⟩), .slice (some ⟨w.heap.size, 0, none⟩) n c] (w.alloc (.cells arr 9)) fun e w' => e = .returned (.tuple #[]) ∧ (∃ v', Sh.Wr B w' b (l ++ Pp.sayL ws) v') ∧ Sh.Ke B w w' := by
  subst hn
  refine (say_any B b w.heap.size 0 c ws l v _ (hw.alloc _) (fun wq hq j s hs => ?_) hn2 hle).mono ?_
  · rw [hq.cell (heap_alloc_new w _) (by decide) (by decide), harr, Nat.zero_add, Sh.strsA]
    simp [hs]
  · rintro e w' ⟨rfl, h1, h2⟩
    exact ⟨rfl, h1, (Sh.Ke.alloc hw.2.1 _).trans h2⟩

set_option maxRecDepth 100000 in
set_option maxHeartbeats 2000000 in
theorem comma_any (B b i : Nat) (l : List UInt8) (v : Value) (w : World) (hw : Sh.Wr B w b l v) (hi : i ≤ 1000000) (hle : l.length + 2 ≤ 1000000000) :
    Calls Tryd.prog 29 #[.pointer (some ⟨b, 0, none⟩), .int .i64 (i : Int)] w fun e w' => e = .returned (.tuple #[]) ∧ (∃ v', Sh.Wr B w' b (l ++ (if i = 0 then [] else Pp.sayL [[44]])) v') ∧ Sh.Ke B w w' := by
  by_cases h : i = 0
  · subst h
    go_enter Tryd.func29, Tryd.ntmps29
    go_wp2_with fail
    refine bodyPost_end (v := .tuple #[]) (by simp [results, Tryd.results29, go_sem]) rfl ⟨rfl, ⟨v, ?_⟩, Sh.Ke.refl _ _⟩
    simpa using hw
  · have HC := hide (say_new B b 1 1 [[44]] #[.string ⟨#[44]⟩] rfl rfl l v w hw (by omega) (by simpa [Pp.sayL] using hle))
    rw [if_neg h]
    have hi0 : (0 : Int) < (i : Int) := by omega
    clear hw
    go_enter Tryd.func29, Tryd.ntmps29
    go_wp2_with fail
    refine HC.out.mono ?_
    rintro e w1 ⟨rfl, h1, h2⟩
    have H1 := hide h1
    have H2 := hide h2
    clear h1 h2 HC
    go_wp2_with fail
    exact bodyPost_end (v := .tuple #[]) (by simp [results, Tryd.results29, go_sem]) rfl ⟨rfl, H1.out, H2.out⟩

theorem gTab : Tryd.prog.globalNamed "internal/strconv.uint64pow10" = some 3 := by kernel_rfl
def Tab (w : World) : Prop := Lib.TabIs Tryd.prog w "internal/strconv.uint64pow10" .u64 Lib.pow10Tab
theorem Tab.keep {w w' : World} {B : Nat} (h : Tab w) (hb : Below B w w') (h0 : 3 < B) : Tab w' := var?_below hb gTab h0 h
theorem Itoa_is (n : Int) (h0 : -2147483648 ≤ n) (h1 : n ≤ 2147483647) (w : World) (ht : Tab w) :
    Calls Tryd.prog 65 #[.int .i64 n] w fun e w' => e = .returned (.string ⟨(Lx.intL n).toArray⟩) ∧ Below w.heap.size w w' := by
  refine (Tryd.strconv_Itoa n (by omega) (by omega) w ht).mono ?_
  rintro e w' ⟨rfl, k, os, rfl⟩
  rw [Lx.itoa_intL n h0 h1]
  refine ⟨rfl, rfl, rfl, rfl, ?_, fun i hi => ?_⟩
  · show w.heap.size ≤ (w.heap ++ os).size
    simp
  · show (w.heap ++ os)[i]? = w.heap[i]?
    rw [Array.getElem?_append_left hi]
namespace Sh
/-- The tables that a writer leans on. -/
structure Tabs (B : Nat) (w : World) : Prop where
  ws : TabS w
  pw : Tab w
  hB : 3 < B ∧ 2 < B ∧ 0 < B
theorem Tabs.on {B : Nat} {w w' : World} (h : Tabs B w) (hb : Below B w w') : Tabs B w' :=
  ⟨⟨fun i t ht => (hb.cell (by exact h.hB.2.1)).trans (h.ws.words i t ht), fun i t ht => (hb.cell (by exact h.hB.2.2)).trans (h.ws.kept i t ht)⟩, h.pw.keep hb h.hB.1, h.hB⟩
theorem intsL_take {ns : List Int} {k : Nat} {n : Int} (h : ns[k]? = some n) : Pp.sayL ((ns.take (k + 1)).map Lx.intL) = Pp.sayL ((ns.take k).map Lx.intL) ++ Pp.sayL [Lx.intL n] := by
  rw [List.take_add_one, h, List.map_append, Pp.sayL_app]; rfl
theorem intsL_le {ns : List Int} (k : Nat) : (Pp.sayL ((ns.take k).map Lx.intL)).length ≤ (Pp.sayL (ns.map Lx.intL)).length := by
  have h := Pp.sayL_app ((ns.take k).map Lx.intL) ((ns.drop k).map Lx.intL)
  rw [← List.map_append, List.take_append_drop] at h
  rw [h, List.length_append]; omega
end Sh

set_option maxRecDepth 100000 in
set_option maxHeartbeats 4000000 in
theorem number_any (B b g o c : Nat) (ns : List Int) (l : List UInt8) (v : Value) (w : World) (hw : Sh.Wr B w b l v) (ht : Sh.Tabs B w)
    (hcells : ∀ wq, Sh.Ke B w wq → ∀ (j : Nat) (n : Int), ns[j]? = some n → wq.cell? ⟨g, o + j, none⟩ = some (.int .i64 n))
    (hr : ∀ n ∈ ns, -2147483648 ≤ n ∧ n ≤ 2147483647) (hn : ns.length ≤ 1000000) (hle : l.length + (Pp.sayL (ns.map Lx.intL)).length ≤ 1000000000) :
    Calls Tryd.prog 54 #[.pointer (some ⟨b, 0, none⟩), .slice (some ⟨g, o, none⟩) ns.length c] w fun e w' => e = .returned (.tuple #[]) ∧ (∃ v', Sh.Wr B w' b (l ++ Pp.sayL (ns.map Lx.intL)) v') ∧ Sh.Ke B w w' := by
  obtain ⟨len, hlen⟩ : ∃ len, len = ns.length := ⟨_, rfl⟩
  have HL := hide hlen
  rw [← hlen] at hn ⊢
  clear hlen
  have HC := hide hcells
  have HW := hide hw
  have HLE := hide hle
  have HT := hide ht
  have HR := hide hr
  clear hcells hw hle ht hr
  go_enter Tryd.func54, Tryd.ntmps54
  go_wp2_with fail
  go_loopw [8] (fun i wr => ∃ (k : Nat) (v : Value), k ≤ len ∧ i = .int .i64 k ∧ Sh.Wr B wr b (l ++ Pp.sayL ((ns.take k).map Lx.intL)) v ∧ Sh.Ke B w wr) (fun i _ => len - (intOf i).toNat)
  case atStart => exact ⟨0, v, Nat.zero_le _, rfl, by simpa [Pp.sayL] using HW.out, Sh.Ke.refl _ _⟩
  case round =>
    obtain ⟨k, v0, hk, rfl, hwr, hke⟩ := hrel
    by_cases hlt : k < len
    · obtain ⟨n, hs⟩ : ∃ n, ns[k]? = some n := ⟨ns[k]'(by rw [← HL.out]; exact hlt), List.getElem?_eq_getElem _⟩
      have r0 := HC.out wr hke k n hs
      have hS := Sh.intsL_take hs
      have hS2 := Sh.intsL_le (ns := ns) (k + 1)
      rw [hS] at hS2
      have HR2 := hide (HR.out n (List.mem_of_getElem? hs))
      have HA : Hid (l ++ Pp.sayL ((ns.take (k + 1)).map Lx.intL) = (l ++ Pp.sayL ((ns.take k).map Lx.intL)) ++ Pp.sayL [Lx.intL n]) := hide (by rw [hS]; simp only [List.append_assoc])
      have HI := hide (fun wq (hq : Tab wq) => Itoa_is n HR2.out.1 HR2.out.2 wq hq)
      have HLl : Hid ((l ++ Pp.sayL ((ns.take k).map Lx.intL)).length + (Pp.sayL [Lx.intL n]).length ≤ 1000000000) := hide (by
        have h2 := HLE.out
        simp only [List.length_append] at hS2 ⊢
        omega)
      generalize l ++ Pp.sayL ((ns.take k).map Lx.intL) = acc at *
      have HWR := hide hwr
      have HKE := hide hke
      have HTw := hide (HT.out.on hke.bel)
      clear hwr hke hs hS hS2
      have hlt' : (k : Int) < (len : Int) := by omega
      go_wp2_with fail
      refine (HI.out _ HTw.out.pw).mono ?_
      rintro e w1 ⟨rfl, hb1⟩
      have HS := hide (say_new B b 1 1 [Lx.intL n] #[.string ⟨(Lx.intL n).toArray⟩] rfl rfl acc v0 w1 (HWR.out.below hb1) (by omega) HLl.out)
      have HK1 := hide (HKE.out.trans (Sh.Ke.below HWR.out.2.1 hb1))
      clear hb1 HI HWR HKE r0
      go_wp2_with fail
      refine HS.out.mono ?_
      rintro e w2 ⟨rfl, h1, h2⟩
      obtain ⟨v2, h1⟩ := h1
      rw [← HA.out] at h1
      have H1 := hide h1
      have H2 := hide (HK1.out.trans h2)
      clear h1 h2 HS HK1 HA HLl
      go_wp2_with fail
      go_roundw
      case rel => exact ⟨k + 1, v2, by omega, by go_num, H1.out, H2.out⟩
      case measure => simp [intOf]; omega
    · go_wp2_with fail
      refine bodyPost_end (v := .tuple #[]) (by simp [results, Tryd.results54, go_sem]) rfl ⟨rfl, ⟨v0, ?_⟩, hke⟩
      rw [List.take_of_length_le (by rw [← HL.out]; omega)] at hwr
      exact hwr

theorem number_new (B b c n : Nat) (ns : List Int) (arr : Array Value) (harr : arr = (ns.map fun x => Value.int .i64 x).toArray) (hn : n = ns.length) (l : List UInt8) (v : Value) (w : World) (hw : Sh.Wr B w b l v) (ht : Sh.Tabs B w)
    (hr : ∀ n ∈ ns, -2147483648 ≤ n ∧ n ≤ 2147483647) (hn2 : n ≤ 1000000) (hle : l.length + (Pp.sayL (ns.map Lx.intL)).length ≤ 1000000000) :
    Calls Tryd.prog 54 #[.pointer (some ⟨b, 0, none⟩), .slice (some ⟨w.heap.size, 0, none⟩) n c] (w.alloc (.cells arr 3)) fun e w' => e = .returned (.tuple #[]) ∧ (∃ v', Sh.Wr B w' b (l ++ Pp.sayL (ns.map Lx.intL)) v') ∧ Sh.Ke B w w' := by
  subst hn
  refine (number_any B b w.heap.size 0 c ns l v _ (hw.alloc _) (ht.on (Sh.Ke.alloc hw.2.1 _).bel) (fun wq hq j s hs => ?_) hr hn2 hle).mono ?_
  · rw [hq.cell (heap_alloc_new w _) (by decide) (by decide), harr, Nat.zero_add]
    simp [hs]
  · rintro e w' ⟨rfl, h1, h2⟩
    exact ⟨rfl, h1, (Sh.Ke.alloc hw.2.1 _).trans h2⟩

end Go.Proofs.YtdgfidaopkcjoabDoor

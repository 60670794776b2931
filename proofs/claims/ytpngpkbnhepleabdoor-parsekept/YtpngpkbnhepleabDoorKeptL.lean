/- ParseKept: the walk. -/
import Derived.Test.YtpngpkbnhepleabDoorProgStr
namespace Go.Proofs.YtpngpkbnhepleabDoor
open Go.RowKit
set_option linter.unusedVariables false
set_option linter.unusedSimpArgs false

namespace Pp
theorem kept_all : ∀ k, k < 12 → keptL (keptWords.getD k []) = true ∧ (keptWords.getD k []).length ≤ 10 := by decide +kernel
theorem kept_0 : ∀ k, k < 12 → (program ([99, 108, 97, 115, 115, 32] ++ keptWords.getD k [] ++ [32, 123, 32, 125])).1.length = 0 ∧ (program ([99, 108, 97, 115, 115, 32] ++ keptWords.getD k [] ++ [32, 123, 32, 125])).2.2 = 4 := by decide +kernel
theorem kept_1 : ∀ k, k < 12 → (program ([99, 108, 97, 115, 115, 32, 65, 32, 101, 120, 116, 101, 110, 100, 115, 32] ++ keptWords.getD k [] ++ [32, 123, 32, 125])).1.length = 0 ∧ (program ([99, 108, 97, 115, 115, 32, 65, 32, 101, 120, 116, 101, 110, 100, 115, 32] ++ keptWords.getD k [] ++ [32, 123, 32, 125])).2.2 = 4 := by decide +kernel
theorem kept_2 : ∀ k, k < 12 → (program ([99, 108, 97, 115, 115, 32, 65, 32, 123, 32, 102, 105, 101, 108, 100, 32] ++ keptWords.getD k [] ++ [32, 58, 32, 105, 110, 116, 32, 59, 32, 125])).1.length = 0 ∧ (program ([99, 108, 97, 115, 115, 32, 65, 32, 123, 32, 102, 105, 101, 108, 100, 32] ++ keptWords.getD k [] ++ [32, 58, 32, 105, 110, 116, 32, 59, 32, 125])).2.2 = 4 := by decide +kernel
theorem kept_3 : ∀ k, k < 12 → (program ([99, 108, 97, 115, 115, 32, 65, 32, 123, 32, 109, 101, 116, 104, 111, 100, 32] ++ keptWords.getD k [] ++ [32, 40, 32, 41, 32, 105, 110, 116, 32, 59, 32, 125])).1.length = 0 ∧ (program ([99, 108, 97, 115, 115, 32, 65, 32, 123, 32, 109, 101, 116, 104, 111, 100, 32] ++ keptWords.getD k [] ++ [32, 40, 32, 41, 32, 105, 110, 116, 32, 59, 32, 125])).2.2 = 4 := by decide +kernel
theorem kept_4 : ∀ k, k < 12 → (program ([105, 110, 116, 101, 114, 102, 97, 99, 101, 32] ++ keptWords.getD k [] ++ [32, 123, 32, 125])).1.length = 0 ∧ (program ([105, 110, 116, 101, 114, 102, 97, 99, 101, 32] ++ keptWords.getD k [] ++ [32, 123, 32, 125])).2.2 = 4 := by decide +kernel
theorem kept_5 : ∀ k, k < 12 → k ≠ 10 → (program ([99, 108, 97, 115, 115, 32, 65, 32, 123, 32, 102, 105, 101, 108, 100, 32, 120, 32, 58, 32] ++ keptWords.getD k [] ++ [32, 91, 32, 93, 32, 59, 32, 125])).1.length = 0 ∧ (program ([99, 108, 97, 115, 115, 32, 65, 32, 123, 32, 102, 105, 101, 108, 100, 32, 120, 32, 58, 32] ++ keptWords.getD k [] ++ [32, 91, 32, 93, 32, 59, 32, 125])).2.2 = 4 := by decide +kernel
theorem kept_int : (program ([99, 108, 97, 115, 115, 32, 65, 32, 123, 32, 102, 105, 101, 108, 100, 32, 120, 32, 58, 32] ++ keptWords.getD 10 [] ++ [32, 91, 32, 93, 32, 59, 32, 125])).2.2 = 0 := by decide +kernel
theorem kept_ten : ∀ k, k < 12 → (keptWords.getD k [] == [105, 110, 116]) = decide (k = 10) := by decide +kernel
end Pp

theorem size_two (w : World) (o1 o2 : Obj) : ((w.alloc o1).alloc o2).heap.size = w.heap.size + 2 := by simp
theorem below_two (w : World) (o1 o2 : Obj) : Below w.heap.size w ((w.alloc o1).alloc o2) := ((Below.refl _ _).alloc (Nat.le_refl _) _).alloc (by simp) _
theorem app3 (a b c : ByteArray) (t : List UInt8) (h : b = ⟨t.toArray⟩) : (a ++ b ++ c).data.toList = a.data.toList ++ t ++ c.data.toList := by rw [h]; simp
theorem toList_mk (t : List UInt8) : (⟨t.toArray⟩ : ByteArray).toList = t := by simp
theorem app3_len (a b c : ByteArray) : (a ++ b ++ c).size = a.size + b.size + c.size := by rw [ByteArray.size_append, ByteArray.size_append]
theorem app3_size (a b c : ByteArray) (ha : a.size ≤ 100) (hb : b.size ≤ 100) (hc : c.size ≤ 100) : (a ++ b ++ c).size ≤ 6000 := by rw [ByteArray.size_append, ByteArray.size_append]; omega
theorem kept_cell (w : World) (k : Nat) (hk : k < 12) : (w.alloc (.cells #[.string ⟨#[99, 108, 97, 115, 115]⟩, .string ⟨#[105, 110, 116, 101, 114, 102, 97, 99, 101]⟩, .string ⟨#[101, 120, 116, 101, 110, 100, 115]⟩, .string ⟨#[105, 109, 112, 108, 101, 109, 101, 110, 116, 115]⟩, .string ⟨#[102, 105, 101, 108, 100]⟩, .string ⟨#[115, 116, 97, 116, 105, 99]⟩, .string ⟨#[109, 101, 116, 104, 111, 100]⟩, .string ⟨#[102, 117, 110, 99, 116, 105, 111, 110]⟩, .string ⟨#[108, 111, 99, 97, 108, 115]⟩, .string ⟨#[99, 97, 116, 99, 104]⟩, .string ⟨#[105, 110, 116]⟩, .string ⟨#[118, 111, 105, 100]⟩] 9)).cell? ⟨w.heap.size, k, none⟩ = some (.string ⟨(Pp.keptWords.getD k []).toArray⟩) := by
  rw [cell_blk (heap_alloc_new w _)]
  have e : (#[.string ⟨#[99, 108, 97, 115, 115]⟩, .string ⟨#[105, 110, 116, 101, 114, 102, 97, 99, 101]⟩, .string ⟨#[101, 120, 116, 101, 110, 100, 115]⟩, .string ⟨#[105, 109, 112, 108, 101, 109, 101, 110, 116, 115]⟩, .string ⟨#[102, 105, 101, 108, 100]⟩, .string ⟨#[115, 116, 97, 116, 105, 99]⟩, .string ⟨#[109, 101, 116, 104, 111, 100]⟩, .string ⟨#[102, 117, 110, 99, 116, 105, 111, 110]⟩, .string ⟨#[108, 111, 99, 97, 108, 115]⟩, .string ⟨#[99, 97, 116, 99, 104]⟩, .string ⟨#[105, 110, 116]⟩, .string ⟨#[118, 111, 105, 100]⟩] : Array Value) = (Pp.keptWords.map fun l => Value.string ⟨l.toArray⟩).toArray := rfl
  rw [e]
  have hl : k < Pp.keptWords.length := hk
  simp [List.getD, hl]

set_option maxRecDepth 100000 in
set_option maxHeartbeats 4000000 in
theorem kept_w0 (a0 a1 : Int) (w : World) (ht : TabS w) (k : Nat) (hk : k < 12) (ek' : wrap64 ((IntKind.u64.wrap a0).tmod 12) = (k : Int)) (em2 : wrap64 ((IntKind.u64.wrap a1).tmod 6) = 0) :
    Calls Tryd.prog 4 #[.int .i64 a0, .int .i64 a1] w fun e w' => e = .returned (.bool true) ∧ Below w.heap.size w w' := by
  obtain ⟨q1, q2⟩ := Pp.kept_0 k hk
  obtain ⟨p1, p2⟩ := Pp.kept_all k (by omega)
  have p3 := Pp.kept_ten k (by omega)
  obtain ⟨t, htt⟩ : ∃ t, t = Pp.keptWords.getD k [] := ⟨_, rfl⟩
  have hcell := kept_cell w k (by omega)
  have hkz : (k : Int) < 12 := by omega
  rw [← htt] at p1 p2 p3 hcell q2 q1
  have hsz : (⟨t.toArray⟩ : ByteArray).size ≤ 10 := by simpa [ByteArray.size] using p2
  have hkp := fun w' (hb : Below w.heap.size w w') => Kept_any t w' (ht.below hb)
  rw [p1] at hkp
  have hwk := hide (fun w' (hb : Below w.heap.size w w') => wakes_any w' (ht.below hb))
  obtain ⟨s, hs⟩ : ∃ s : ByteArray, s = ⟨t.toArray⟩ := ⟨_, rfl⟩
  rw [← hs] at hcell hsz hkp
  have hP := Program_str ((w.alloc (.cells #[.string ⟨#[99, 108, 97, 115, 115]⟩, .string ⟨#[105, 110, 116, 101, 114, 102, 97, 99, 101]⟩, .string ⟨#[101, 120, 116, 101, 110, 100, 115]⟩, .string ⟨#[105, 109, 112, 108, 101, 109, 101, 110, 116, 115]⟩, .string ⟨#[102, 105, 101, 108, 100]⟩, .string ⟨#[115, 116, 97, 116, 105, 99]⟩, .string ⟨#[109, 101, 116, 104, 111, 100]⟩, .string ⟨#[102, 117, 110, 99, 116, 105, 111, 110]⟩, .string ⟨#[108, 111, 99, 97, 108, 115]⟩, .string ⟨#[99, 97, 116, 99, 104]⟩, .string ⟨#[105, 110, 116]⟩, .string ⟨#[118, 111, 105, 100]⟩] 9)).alloc (.cells #[.string ((⟨#[99, 108, 97, 115, 115, 32]⟩ : ByteArray) ++ s ++ (⟨#[32, 123, 32, 125]⟩ : ByteArray)), .string ((⟨#[99, 108, 97, 115, 115, 32, 65, 32, 101, 120, 116, 101, 110, 100, 115, 32]⟩ : ByteArray) ++ s ++ (⟨#[32, 123, 32, 125]⟩ : ByteArray)), .string ((⟨#[99, 108, 97, 115, 115, 32, 65, 32, 123, 32, 102, 105, 101, 108, 100, 32]⟩ : ByteArray) ++ s ++ (⟨#[32, 58, 32, 105, 110, 116, 32, 59, 32, 125]⟩ : ByteArray)), .string ((⟨#[99, 108, 97, 115, 115, 32, 65, 32, 123, 32, 109, 101, 116, 104, 111, 100, 32]⟩ : ByteArray) ++ s ++ (⟨#[32, 40, 32, 41, 32, 105, 110, 116, 32, 59, 32, 125]⟩ : ByteArray)), .string ((⟨#[105, 110, 116, 101, 114, 102, 97, 99, 101, 32]⟩ : ByteArray) ++ s ++ (⟨#[32, 123, 32, 125]⟩ : ByteArray)), .string ((⟨#[99, 108, 97, 115, 115, 32, 65, 32, 123, 32, 102, 105, 101, 108, 100, 32, 120, 32, 58, 32]⟩ : ByteArray) ++ s ++ (⟨#[32, 91, 32, 93, 32, 59, 32, 125]⟩ : ByteArray))] 9)) (ht.below (below_two w _ _)) ((⟨#[99, 108, 97, 115, 115, 32]⟩ : ByteArray) ++ s ++ (⟨#[32, 123, 32, 125]⟩ : ByteArray)) (app3_size _ _ _ (by decide) (by omega) (by decide))
  have hXl : ((⟨#[99, 108, 97, 115, 115, 32]⟩ : ByteArray) ++ s ++ (⟨#[32, 123, 32, 125]⟩ : ByteArray)).data.toList = [99, 108, 97, 115, 115, 32] ++ t ++ [32, 123, 32, 125] := app3 _ _ _ t hs
  have hXs : ((⟨#[99, 108, 97, 115, 115, 32]⟩ : ByteArray) ++ s ++ (⟨#[32, 123, 32, 125]⟩ : ByteArray)).size = 6 + s.size + 4 := app3_len _ _ _
  rw [hXl, q2, q1, size_two, hXs] at hP
  obtain ⟨pl, hpl⟩ : ∃ pl, pl = (Pp.program ([99, 108, 97, 115, 115, 32] ++ t ++ [32, 123, 32, 125])).2.1 := ⟨_, rfl⟩
  rw [← hpl] at hP
  have hP2 : Calls Tryd.prog 6 #[.slice (some ⟨w.heap.size + 1 + 1, 0, none⟩) (6 + s.size + 4) (grownCap ((w.alloc (.cells #[.string ⟨#[99, 108, 97, 115, 115]⟩, .string ⟨#[105, 110, 116, 101, 114, 102, 97, 99, 101]⟩, .string ⟨#[101, 120, 116, 101, 110, 100, 115]⟩, .string ⟨#[105, 109, 112, 108, 101, 109, 101, 110, 116, 115]⟩, .string ⟨#[102, 105, 101, 108, 100]⟩, .string ⟨#[115, 116, 97, 116, 105, 99]⟩, .string ⟨#[109, 101, 116, 104, 111, 100]⟩, .string ⟨#[102, 117, 110, 99, 116, 105, 111, 110]⟩, .string ⟨#[108, 111, 99, 97, 108, 115]⟩, .string ⟨#[99, 97, 116, 99, 104]⟩, .string ⟨#[105, 110, 116]⟩, .string ⟨#[118, 111, 105, 100]⟩] 9)).alloc (.cells #[.string ((⟨#[99, 108, 97, 115, 115, 32]⟩ : ByteArray) ++ s ++ (⟨#[32, 123, 32, 125]⟩ : ByteArray)), .string ((⟨#[99, 108, 97, 115, 115, 32, 65, 32, 101, 120, 116, 101, 110, 100, 115, 32]⟩ : ByteArray) ++ s ++ (⟨#[32, 123, 32, 125]⟩ : ByteArray)), .string ((⟨#[99, 108, 97, 115, 115, 32, 65, 32, 123, 32, 102, 105, 101, 108, 100, 32]⟩ : ByteArray) ++ s ++ (⟨#[32, 58, 32, 105, 110, 116, 32, 59, 32, 125]⟩ : ByteArray)), .string ((⟨#[99, 108, 97, 115, 115, 32, 65, 32, 123, 32, 109, 101, 116, 104, 111, 100, 32]⟩ : ByteArray) ++ s ++ (⟨#[32, 40, 32, 41, 32, 105, 110, 116, 32, 59, 32, 125]⟩ : ByteArray)), .string ((⟨#[105, 110, 116, 101, 114, 102, 97, 99, 101, 32]⟩ : ByteArray) ++ s ++ (⟨#[32, 123, 32, 125]⟩ : ByteArray)), .string ((⟨#[99, 108, 97, 115, 115, 32, 65, 32, 123, 32, 102, 105, 101, 108, 100, 32, 120, 32, 58, 32]⟩ : ByteArray) ++ s ++ (⟨#[32, 91, 32, 93, 32, 59, 32, 125]⟩ : ByteArray))] 9)) (6 + s.size + 4) 0 5)] (Lib.bytesWorld ((w.alloc (.cells #[.string ⟨#[99, 108, 97, 115, 115]⟩, .string ⟨#[105, 110, 116, 101, 114, 102, 97, 99, 101]⟩, .string ⟨#[101, 120, 116, 101, 110, 100, 115]⟩, .string ⟨#[105, 109, 112, 108, 101, 109, 101, 110, 116, 115]⟩, .string ⟨#[102, 105, 101, 108, 100]⟩, .string ⟨#[115, 116, 97, 116, 105, 99]⟩, .string ⟨#[109, 101, 116, 104, 111, 100]⟩, .string ⟨#[102, 117, 110, 99, 116, 105, 111, 110]⟩, .string ⟨#[108, 111, 99, 97, 108, 115]⟩, .string ⟨#[99, 97, 116, 99, 104]⟩, .string ⟨#[105, 110, 116]⟩, .string ⟨#[118, 111, 105, 100]⟩] 9)).alloc (.cells #[.string ((⟨#[99, 108, 97, 115, 115, 32]⟩ : ByteArray) ++ s ++ (⟨#[32, 123, 32, 125]⟩ : ByteArray)), .string ((⟨#[99, 108, 97, 115, 115, 32, 65, 32, 101, 120, 116, 101, 110, 100, 115, 32]⟩ : ByteArray) ++ s ++ (⟨#[32, 123, 32, 125]⟩ : ByteArray)), .string ((⟨#[99, 108, 97, 115, 115, 32, 65, 32, 123, 32, 102, 105, 101, 108, 100, 32]⟩ : ByteArray) ++ s ++ (⟨#[32, 58, 32, 105, 110, 116, 32, 59, 32, 125]⟩ : ByteArray)), .string ((⟨#[99, 108, 97, 115, 115, 32, 65, 32, 123, 32, 109, 101, 116, 104, 111, 100, 32]⟩ : ByteArray) ++ s ++ (⟨#[32, 40, 32, 41, 32, 105, 110, 116, 32, 59, 32, 125]⟩ : ByteArray)), .string ((⟨#[105, 110, 116, 101, 114, 102, 97, 99, 101, 32]⟩ : ByteArray) ++ s ++ (⟨#[32, 123, 32, 125]⟩ : ByteArray)), .string ((⟨#[99, 108, 97, 115, 115, 32, 65, 32, 123, 32, 102, 105, 101, 108, 100, 32, 120, 32, 58, 32]⟩ : ByteArray) ++ s ++ (⟨#[32, 91, 32, 93, 32, 59, 32, 125]⟩ : ByteArray))] 9)) 5 ((⟨#[99, 108, 97, 115, 115, 32]⟩ : ByteArray) ++ s ++ (⟨#[32, 123, 32, 125]⟩ : ByteArray))) fun e w' => ∃ a c, e = .returned (.tuple #[.agg #[.slice a 0 c], .int .i64 (pl : Int), .int .i64 4]) ∧ Below w.heap.size w w' := hP.mono fun e w' ⟨a, c, h1, h2⟩ => ⟨a, c, h1, (below_two w _ _).trans (h2.mono (by omega))⟩
  have HP2 := hide hP2
  have HKP := hide hkp
  have hcv := fun w : World => Lib.run_convert_string_bytes (P := Tryd.prog) w 9 30 5 ((⟨#[99, 108, 97, 115, 115, 32]⟩ : ByteArray) ++ s ++ (⟨#[32, 123, 32, 125]⟩ : ByteArray)) (by kernel_rfl : Tryd.prog.underlying 9 = some .string) (by kernel_rfl) (by kernel_rfl)
  clear ht htt p1 p2 p3 hP hP2 hkp hXl hXs hpl q1 q2
  clear hs
  go_enter Tryd.func4, Tryd.ntmps4
  go_wp2_with fail
  refine HP2.out.mono ?_
  rintro e w3 ⟨av, cv, rfl, hb3⟩
  clear HP2 hcv hcell
  go_wp2_with fail
  refine (HKP.out _ (hb3.alloc hb3.size _)).mono ?_
  rintro e w4 ⟨rfl, hw4⟩
  have hw4 := hw4.symm
  subst hw4
  go_wp2_with fail
  refine (hwk.out _ (hb3.alloc hb3.size _)).mono ?_
  rintro e w4 ⟨rfl, hb4⟩
  go_wp2_with fail
  go_ret
  exact ⟨rfl, (hb3.alloc hb3.size _).trans (hb4.mono (by have := hb3.size; simp; omega))⟩

set_option maxRecDepth 100000 in
set_option maxHeartbeats 4000000 in
theorem kept_w1 (a0 a1 : Int) (w : World) (ht : TabS w) (k : Nat) (hk : k < 12) (ek' : wrap64 ((IntKind.u64.wrap a0).tmod 12) = (k : Int)) (em2 : wrap64 ((IntKind.u64.wrap a1).tmod 6) = 1) :
    Calls Tryd.prog 4 #[.int .i64 a0, .int .i64 a1] w fun e w' => e = .returned (.bool true) ∧ Below w.heap.size w w' := by
  obtain ⟨q1, q2⟩ := Pp.kept_1 k hk
  obtain ⟨p1, p2⟩ := Pp.kept_all k (by omega)
  have p3 := Pp.kept_ten k (by omega)
  obtain ⟨t, htt⟩ : ∃ t, t = Pp.keptWords.getD k [] := ⟨_, rfl⟩
  have hcell := kept_cell w k (by omega)
  have hkz : (k : Int) < 12 := by omega
  rw [← htt] at p1 p2 p3 hcell q2 q1
  have hsz : (⟨t.toArray⟩ : ByteArray).size ≤ 10 := by simpa [ByteArray.size] using p2
  have hkp := fun w' (hb : Below w.heap.size w w') => Kept_any t w' (ht.below hb)
  rw [p1] at hkp
  have hwk := hide (fun w' (hb : Below w.heap.size w w') => wakes_any w' (ht.below hb))
  obtain ⟨s, hs⟩ : ∃ s : ByteArray, s = ⟨t.toArray⟩ := ⟨_, rfl⟩
  rw [← hs] at hcell hsz hkp
  have hP := Program_str ((w.alloc (.cells #[.string ⟨#[99, 108, 97, 115, 115]⟩, .string ⟨#[105, 110, 116, 101, 114, 102, 97, 99, 101]⟩, .string ⟨#[101, 120, 116, 101, 110, 100, 115]⟩, .string ⟨#[105, 109, 112, 108, 101, 109, 101, 110, 116, 115]⟩, .string ⟨#[102, 105, 101, 108, 100]⟩, .string ⟨#[115, 116, 97, 116, 105, 99]⟩, .string ⟨#[109, 101, 116, 104, 111, 100]⟩, .string ⟨#[102, 117, 110, 99, 116, 105, 111, 110]⟩, .string ⟨#[108, 111, 99, 97, 108, 115]⟩, .string ⟨#[99, 97, 116, 99, 104]⟩, .string ⟨#[105, 110, 116]⟩, .string ⟨#[118, 111, 105, 100]⟩] 9)).alloc (.cells #[.string ((⟨#[99, 108, 97, 115, 115, 32]⟩ : ByteArray) ++ s ++ (⟨#[32, 123, 32, 125]⟩ : ByteArray)), .string ((⟨#[99, 108, 97, 115, 115, 32, 65, 32, 101, 120, 116, 101, 110, 100, 115, 32]⟩ : ByteArray) ++ s ++ (⟨#[32, 123, 32, 125]⟩ : ByteArray)), .string ((⟨#[99, 108, 97, 115, 115, 32, 65, 32, 123, 32, 102, 105, 101, 108, 100, 32]⟩ : ByteArray) ++ s ++ (⟨#[32, 58, 32, 105, 110, 116, 32, 59, 32, 125]⟩ : ByteArray)), .string ((⟨#[99, 108, 97, 115, 115, 32, 65, 32, 123, 32, 109, 101, 116, 104, 111, 100, 32]⟩ : ByteArray) ++ s ++ (⟨#[32, 40, 32, 41, 32, 105, 110, 116, 32, 59, 32, 125]⟩ : ByteArray)), .string ((⟨#[105, 110, 116, 101, 114, 102, 97, 99, 101, 32]⟩ : ByteArray) ++ s ++ (⟨#[32, 123, 32, 125]⟩ : ByteArray)), .string ((⟨#[99, 108, 97, 115, 115, 32, 65, 32, 123, 32, 102, 105, 101, 108, 100, 32, 120, 32, 58, 32]⟩ : ByteArray) ++ s ++ (⟨#[32, 91, 32, 93, 32, 59, 32, 125]⟩ : ByteArray))] 9)) (ht.below (below_two w _ _)) ((⟨#[99, 108, 97, 115, 115, 32, 65, 32, 101, 120, 116, 101, 110, 100, 115, 32]⟩ : ByteArray) ++ s ++ (⟨#[32, 123, 32, 125]⟩ : ByteArray)) (app3_size _ _ _ (by decide) (by omega) (by decide))
  have hXl : ((⟨#[99, 108, 97, 115, 115, 32, 65, 32, 101, 120, 116, 101, 110, 100, 115, 32]⟩ : ByteArray) ++ s ++ (⟨#[32, 123, 32, 125]⟩ : ByteArray)).data.toList = [99, 108, 97, 115, 115, 32, 65, 32, 101, 120, 116, 101, 110, 100, 115, 32] ++ t ++ [32, 123, 32, 125] := app3 _ _ _ t hs
  have hXs : ((⟨#[99, 108, 97, 115, 115, 32, 65, 32, 101, 120, 116, 101, 110, 100, 115, 32]⟩ : ByteArray) ++ s ++ (⟨#[32, 123, 32, 125]⟩ : ByteArray)).size = 16 + s.size + 4 := app3_len _ _ _
  rw [hXl, q2, q1, size_two, hXs] at hP
  obtain ⟨pl, hpl⟩ : ∃ pl, pl = (Pp.program ([99, 108, 97, 115, 115, 32, 65, 32, 101, 120, 116, 101, 110, 100, 115, 32] ++ t ++ [32, 123, 32, 125])).2.1 := ⟨_, rfl⟩
  rw [← hpl] at hP
  have hP2 : Calls Tryd.prog 6 #[.slice (some ⟨w.heap.size + 1 + 1, 0, none⟩) (16 + s.size + 4) (grownCap ((w.alloc (.cells #[.string ⟨#[99, 108, 97, 115, 115]⟩, .string ⟨#[105, 110, 116, 101, 114, 102, 97, 99, 101]⟩, .string ⟨#[101, 120, 116, 101, 110, 100, 115]⟩, .string ⟨#[105, 109, 112, 108, 101, 109, 101, 110, 116, 115]⟩, .string ⟨#[102, 105, 101, 108, 100]⟩, .string ⟨#[115, 116, 97, 116, 105, 99]⟩, .string ⟨#[109, 101, 116, 104, 111, 100]⟩, .string ⟨#[102, 117, 110, 99, 116, 105, 111, 110]⟩, .string ⟨#[108, 111, 99, 97, 108, 115]⟩, .string ⟨#[99, 97, 116, 99, 104]⟩, .string ⟨#[105, 110, 116]⟩, .string ⟨#[118, 111, 105, 100]⟩] 9)).alloc (.cells #[.string ((⟨#[99, 108, 97, 115, 115, 32]⟩ : ByteArray) ++ s ++ (⟨#[32, 123, 32, 125]⟩ : ByteArray)), .string ((⟨#[99, 108, 97, 115, 115, 32, 65, 32, 101, 120, 116, 101, 110, 100, 115, 32]⟩ : ByteArray) ++ s ++ (⟨#[32, 123, 32, 125]⟩ : ByteArray)), .string ((⟨#[99, 108, 97, 115, 115, 32, 65, 32, 123, 32, 102, 105, 101, 108, 100, 32]⟩ : ByteArray) ++ s ++ (⟨#[32, 58, 32, 105, 110, 116, 32, 59, 32, 125]⟩ : ByteArray)), .string ((⟨#[99, 108, 97, 115, 115, 32, 65, 32, 123, 32, 109, 101, 116, 104, 111, 100, 32]⟩ : ByteArray) ++ s ++ (⟨#[32, 40, 32, 41, 32, 105, 110, 116, 32, 59, 32, 125]⟩ : ByteArray)), .string ((⟨#[105, 110, 116, 101, 114, 102, 97, 99, 101, 32]⟩ : ByteArray) ++ s ++ (⟨#[32, 123, 32, 125]⟩ : ByteArray)), .string ((⟨#[99, 108, 97, 115, 115, 32, 65, 32, 123, 32, 102, 105, 101, 108, 100, 32, 120, 32, 58, 32]⟩ : ByteArray) ++ s ++ (⟨#[32, 91, 32, 93, 32, 59, 32, 125]⟩ : ByteArray))] 9)) (16 + s.size + 4) 0 5)] (Lib.bytesWorld ((w.alloc (.cells #[.string ⟨#[99, 108, 97, 115, 115]⟩, .string ⟨#[105, 110, 116, 101, 114, 102, 97, 99, 101]⟩, .string ⟨#[101, 120, 116, 101, 110, 100, 115]⟩, .string ⟨#[105, 109, 112, 108, 101, 109, 101, 110, 116, 115]⟩, .string ⟨#[102, 105, 101, 108, 100]⟩, .string ⟨#[115, 116, 97, 116, 105, 99]⟩, .string ⟨#[109, 101, 116, 104, 111, 100]⟩, .string ⟨#[102, 117, 110, 99, 116, 105, 111, 110]⟩, .string ⟨#[108, 111, 99, 97, 108, 115]⟩, .string ⟨#[99, 97, 116, 99, 104]⟩, .string ⟨#[105, 110, 116]⟩, .string ⟨#[118, 111, 105, 100]⟩] 9)).alloc (.cells #[.string ((⟨#[99, 108, 97, 115, 115, 32]⟩ : ByteArray) ++ s ++ (⟨#[32, 123, 32, 125]⟩ : ByteArray)), .string ((⟨#[99, 108, 97, 115, 115, 32, 65, 32, 101, 120, 116, 101, 110, 100, 115, 32]⟩ : ByteArray) ++ s ++ (⟨#[32, 123, 32, 125]⟩ : ByteArray)), .string ((⟨#[99, 108, 97, 115, 115, 32, 65, 32, 123, 32, 102, 105, 101, 108, 100, 32]⟩ : ByteArray) ++ s ++ (⟨#[32, 58, 32, 105, 110, 116, 32, 59, 32, 125]⟩ : ByteArray)), .string ((⟨#[99, 108, 97, 115, 115, 32, 65, 32, 123, 32, 109, 101, 116, 104, 111, 100, 32]⟩ : ByteArray) ++ s ++ (⟨#[32, 40, 32, 41, 32, 105, 110, 116, 32, 59, 32, 125]⟩ : ByteArray)), .string ((⟨#[105, 110, 116, 101, 114, 102, 97, 99, 101, 32]⟩ : ByteArray) ++ s ++ (⟨#[32, 123, 32, 125]⟩ : ByteArray)), .string ((⟨#[99, 108, 97, 115, 115, 32, 65, 32, 123, 32, 102, 105, 101, 108, 100, 32, 120, 32, 58, 32]⟩ : ByteArray) ++ s ++ (⟨#[32, 91, 32, 93, 32, 59, 32, 125]⟩ : ByteArray))] 9)) 5 ((⟨#[99, 108, 97, 115, 115, 32, 65, 32, 101, 120, 116, 101, 110, 100, 115, 32]⟩ : ByteArray) ++ s ++ (⟨#[32, 123, 32, 125]⟩ : ByteArray))) fun e w' => ∃ a c, e = .returned (.tuple #[.agg #[.slice a 0 c], .int .i64 (pl : Int), .int .i64 4]) ∧ Below w.heap.size w w' := hP.mono fun e w' ⟨a, c, h1, h2⟩ => ⟨a, c, h1, (below_two w _ _).trans (h2.mono (by omega))⟩
  have HP2 := hide hP2
  have HKP := hide hkp
  have hcv := fun w : World => Lib.run_convert_string_bytes (P := Tryd.prog) w 9 30 5 ((⟨#[99, 108, 97, 115, 115, 32, 65, 32, 101, 120, 116, 101, 110, 100, 115, 32]⟩ : ByteArray) ++ s ++ (⟨#[32, 123, 32, 125]⟩ : ByteArray)) (by kernel_rfl : Tryd.prog.underlying 9 = some .string) (by kernel_rfl) (by kernel_rfl)
  clear ht htt p1 p2 p3 hP hP2 hkp hXl hXs hpl q1 q2
  clear hs
  go_enter Tryd.func4, Tryd.ntmps4
  go_wp2_with fail
  refine HP2.out.mono ?_
  rintro e w3 ⟨av, cv, rfl, hb3⟩
  clear HP2 hcv hcell
  go_wp2_with fail
  refine (HKP.out _ (hb3.alloc hb3.size _)).mono ?_
  rintro e w4 ⟨rfl, hw4⟩
  have hw4 := hw4.symm
  subst hw4
  go_wp2_with fail
  refine (hwk.out _ (hb3.alloc hb3.size _)).mono ?_
  rintro e w4 ⟨rfl, hb4⟩
  go_wp2_with fail
  go_ret
  exact ⟨rfl, (hb3.alloc hb3.size _).trans (hb4.mono (by have := hb3.size; simp; omega))⟩

set_option maxRecDepth 100000 in
set_option maxHeartbeats 4000000 in
theorem kept_w2 (a0 a1 : Int) (w : World) (ht : TabS w) (k : Nat) (hk : k < 12) (ek' : wrap64 ((IntKind.u64.wrap a0).tmod 12) = (k : Int)) (em2 : wrap64 ((IntKind.u64.wrap a1).tmod 6) = 2) :
    Calls Tryd.prog 4 #[.int .i64 a0, .int .i64 a1] w fun e w' => e = .returned (.bool true) ∧ Below w.heap.size w w' := by
  obtain ⟨q1, q2⟩ := Pp.kept_2 k hk
  obtain ⟨p1, p2⟩ := Pp.kept_all k (by omega)
  have p3 := Pp.kept_ten k (by omega)
  obtain ⟨t, htt⟩ : ∃ t, t = Pp.keptWords.getD k [] := ⟨_, rfl⟩
  have hcell := kept_cell w k (by omega)
  have hkz : (k : Int) < 12 := by omega
  rw [← htt] at p1 p2 p3 hcell q2 q1
  have hsz : (⟨t.toArray⟩ : ByteArray).size ≤ 10 := by simpa [ByteArray.size] using p2
  have hkp := fun w' (hb : Below w.heap.size w w') => Kept_any t w' (ht.below hb)
  rw [p1] at hkp
  have hwk := hide (fun w' (hb : Below w.heap.size w w') => wakes_any w' (ht.below hb))
  obtain ⟨s, hs⟩ : ∃ s : ByteArray, s = ⟨t.toArray⟩ := ⟨_, rfl⟩
  rw [← hs] at hcell hsz hkp
  have hP := Program_str ((w.alloc (.cells #[.string ⟨#[99, 108, 97, 115, 115]⟩, .string ⟨#[105, 110, 116, 101, 114, 102, 97, 99, 101]⟩, .string ⟨#[101, 120, 116, 101, 110, 100, 115]⟩, .string ⟨#[105, 109, 112, 108, 101, 109, 101, 110, 116, 115]⟩, .string ⟨#[102, 105, 101, 108, 100]⟩, .string ⟨#[115, 116, 97, 116, 105, 99]⟩, .string ⟨#[109, 101, 116, 104, 111, 100]⟩, .string ⟨#[102, 117, 110, 99, 116, 105, 111, 110]⟩, .string ⟨#[108, 111, 99, 97, 108, 115]⟩, .string ⟨#[99, 97, 116, 99, 104]⟩, .string ⟨#[105, 110, 116]⟩, .string ⟨#[118, 111, 105, 100]⟩] 9)).alloc (.cells #[.string ((⟨#[99, 108, 97, 115, 115, 32]⟩ : ByteArray) ++ s ++ (⟨#[32, 123, 32, 125]⟩ : ByteArray)), .string ((⟨#[99, 108, 97, 115, 115, 32, 65, 32, 101, 120, 116, 101, 110, 100, 115, 32]⟩ : ByteArray) ++ s ++ (⟨#[32, 123, 32, 125]⟩ : ByteArray)), .string ((⟨#[99, 108, 97, 115, 115, 32, 65, 32, 123, 32, 102, 105, 101, 108, 100, 32]⟩ : ByteArray) ++ s ++ (⟨#[32, 58, 32, 105, 110, 116, 32, 59, 32, 125]⟩ : ByteArray)), .string ((⟨#[99, 108, 97, 115, 115, 32, 65, 32, 123, 32, 109, 101, 116, 104, 111, 100, 32]⟩ : ByteArray) ++ s ++ (⟨#[32, 40, 32, 41, 32, 105, 110, 116, 32, 59, 32, 125]⟩ : ByteArray)), .string ((⟨#[105, 110, 116, 101, 114, 102, 97, 99, 101, 32]⟩ : ByteArray) ++ s ++ (⟨#[32, 123, 32, 125]⟩ : ByteArray)), .string ((⟨#[99, 108, 97, 115, 115, 32, 65, 32, 123, 32, 102, 105, 101, 108, 100, 32, 120, 32, 58, 32]⟩ : ByteArray) ++ s ++ (⟨#[32, 91, 32, 93, 32, 59, 32, 125]⟩ : ByteArray))] 9)) (ht.below (below_two w _ _)) ((⟨#[99, 108, 97, 115, 115, 32, 65, 32, 123, 32, 102, 105, 101, 108, 100, 32]⟩ : ByteArray) ++ s ++ (⟨#[32, 58, 32, 105, 110, 116, 32, 59, 32, 125]⟩ : ByteArray)) (app3_size _ _ _ (by decide) (by omega) (by decide))
  have hXl : ((⟨#[99, 108, 97, 115, 115, 32, 65, 32, 123, 32, 102, 105, 101, 108, 100, 32]⟩ : ByteArray) ++ s ++ (⟨#[32, 58, 32, 105, 110, 116, 32, 59, 32, 125]⟩ : ByteArray)).data.toList = [99, 108, 97, 115, 115, 32, 65, 32, 123, 32, 102, 105, 101, 108, 100, 32] ++ t ++ [32, 58, 32, 105, 110, 116, 32, 59, 32, 125] := app3 _ _ _ t hs
  have hXs : ((⟨#[99, 108, 97, 115, 115, 32, 65, 32, 123, 32, 102, 105, 101, 108, 100, 32]⟩ : ByteArray) ++ s ++ (⟨#[32, 58, 32, 105, 110, 116, 32, 59, 32, 125]⟩ : ByteArray)).size = 16 + s.size + 10 := app3_len _ _ _
  rw [hXl, q2, q1, size_two, hXs] at hP
  obtain ⟨pl, hpl⟩ : ∃ pl, pl = (Pp.program ([99, 108, 97, 115, 115, 32, 65, 32, 123, 32, 102, 105, 101, 108, 100, 32] ++ t ++ [32, 58, 32, 105, 110, 116, 32, 59, 32, 125])).2.1 := ⟨_, rfl⟩
  rw [← hpl] at hP
  have hP2 : Calls Tryd.prog 6 #[.slice (some ⟨w.heap.size + 1 + 1, 0, none⟩) (16 + s.size + 10) (grownCap ((w.alloc (.cells #[.string ⟨#[99, 108, 97, 115, 115]⟩, .string ⟨#[105, 110, 116, 101, 114, 102, 97, 99, 101]⟩, .string ⟨#[101, 120, 116, 101, 110, 100, 115]⟩, .string ⟨#[105, 109, 112, 108, 101, 109, 101, 110, 116, 115]⟩, .string ⟨#[102, 105, 101, 108, 100]⟩, .string ⟨#[115, 116, 97, 116, 105, 99]⟩, .string ⟨#[109, 101, 116, 104, 111, 100]⟩, .string ⟨#[102, 117, 110, 99, 116, 105, 111, 110]⟩, .string ⟨#[108, 111, 99, 97, 108, 115]⟩, .string ⟨#[99, 97, 116, 99, 104]⟩, .string ⟨#[105, 110, 116]⟩, .string ⟨#[118, 111, 105, 100]⟩] 9)).alloc (.cells #[.string ((⟨#[99, 108, 97, 115, 115, 32]⟩ : ByteArray) ++ s ++ (⟨#[32, 123, 32, 125]⟩ : ByteArray)), .string ((⟨#[99, 108, 97, 115, 115, 32, 65, 32, 101, 120, 116, 101, 110, 100, 115, 32]⟩ : ByteArray) ++ s ++ (⟨#[32, 123, 32, 125]⟩ : ByteArray)), .string ((⟨#[99, 108, 97, 115, 115, 32, 65, 32, 123, 32, 102, 105, 101, 108, 100, 32]⟩ : ByteArray) ++ s ++ (⟨#[32, 58, 32, 105, 110, 116, 32, 59, 32, 125]⟩ : ByteArray)), .string ((⟨#[99, 108, 97, 115, 115, 32, 65, 32, 123, 32, 109, 101, 116, 104, 111, 100, 32]⟩ : ByteArray) ++ s ++ (⟨#[32, 40, 32, 41, 32, 105, 110, 116, 32, 59, 32, 125]⟩ : ByteArray)), .string ((⟨#[105, 110, 116, 101, 114, 102, 97, 99, 101, 32]⟩ : ByteArray) ++ s ++ (⟨#[32, 123, 32, 125]⟩ : ByteArray)), .string ((⟨#[99, 108, 97, 115, 115, 32, 65, 32, 123, 32, 102, 105, 101, 108, 100, 32, 120, 32, 58, 32]⟩ : ByteArray) ++ s ++ (⟨#[32, 91, 32, 93, 32, 59, 32, 125]⟩ : ByteArray))] 9)) (16 + s.size + 10) 0 5)] (Lib.bytesWorld ((w.alloc (.cells #[.string ⟨#[99, 108, 97, 115, 115]⟩, .string ⟨#[105, 110, 116, 101, 114, 102, 97, 99, 101]⟩, .string ⟨#[101, 120, 116, 101, 110, 100, 115]⟩, .string ⟨#[105, 109, 112, 108, 101, 109, 101, 110, 116, 115]⟩, .string ⟨#[102, 105, 101, 108, 100]⟩, .string ⟨#[115, 116, 97, 116, 105, 99]⟩, .string ⟨#[109, 101, 116, 104, 111, 100]⟩, .string ⟨#[102, 117, 110, 99, 116, 105, 111, 110]⟩, .string ⟨#[108, 111, 99, 97, 108, 115]⟩, .string ⟨#[99, 97, 116, 99, 104]⟩, .string ⟨#[105, 110, 116]⟩, .string ⟨#[118, 111, 105, 100]⟩] 9)).alloc (.cells #[.string ((⟨#[99, 108, 97, 115, 115, 32]⟩ : ByteArray) ++ s ++ (⟨#[32, 123, 32, 125]⟩ : ByteArray)), .string ((⟨#[99, 108, 97, 115, 115, 32, 65, 32, 101, 120, 116, 101, 110, 100, 115, 32]⟩ : ByteArray) ++ s ++ (⟨#[32, 123, 32, 125]⟩ : ByteArray)), .string ((⟨#[99, 108, 97, 115, 115, 32, 65, 32, 123, 32, 102, 105, 101, 108, 100, 32]⟩ : ByteArray) ++ s ++ (⟨#[32, 58, 32, 105, 110, 116, 32, 59, 32, 125]⟩ : ByteArray)), .string ((⟨#[99, 108, 97, 115, 115, 32, 65, 32, 123, 32, 109, 101, 116, 104, 111, 100, 32]⟩ : ByteArray) ++ s ++ (⟨#[32, 40, 32, 41, 32, 105, 110, 116, 32, 59, 32, 125]⟩ : ByteArray)), .string ((⟨#[105, 110, 116, 101, 114, 102, 97, 99, 101, 32]⟩ : ByteArray) ++ s ++ (⟨#[32, 123, 32, 125]⟩ : ByteArray)), .string ((⟨#[99, 108, 97, 115, 115, 32, 65, 32, 123, 32, 102, 105, 101, 108, 100, 32, 120, 32, 58, 32]⟩ : ByteArray) ++ s ++ (⟨#[32, 91, 32, 93, 32, 59, 32, 125]⟩ : ByteArray))] 9)) 5 ((⟨#[99, 108, 97, 115, 115, 32, 65, 32, 123, 32, 102, 105, 101, 108, 100, 32]⟩ : ByteArray) ++ s ++ (⟨#[32, 58, 32, 105, 110, 116, 32, 59, 32, 125]⟩ : ByteArray))) fun e w' => ∃ a c, e = .returned (.tuple #[.agg #[.slice a 0 c], .int .i64 (pl : Int), .int .i64 4]) ∧ Below w.heap.size w w' := hP.mono fun e w' ⟨a, c, h1, h2⟩ => ⟨a, c, h1, (below_two w _ _).trans (h2.mono (by omega))⟩
  have HP2 := hide hP2
  have HKP := hide hkp
  have hcv := fun w : World => Lib.run_convert_string_bytes (P := Tryd.prog) w 9 30 5 ((⟨#[99, 108, 97, 115, 115, 32, 65, 32, 123, 32, 102, 105, 101, 108, 100, 32]⟩ : ByteArray) ++ s ++ (⟨#[32, 58, 32, 105, 110, 116, 32, 59, 32, 125]⟩ : ByteArray)) (by kernel_rfl : Tryd.prog.underlying 9 = some .string) (by kernel_rfl) (by kernel_rfl)
  clear ht htt p1 p2 p3 hP hP2 hkp hXl hXs hpl q1 q2
  clear hs
  go_enter Tryd.func4, Tryd.ntmps4
  go_wp2_with fail
  refine HP2.out.mono ?_
  rintro e w3 ⟨av, cv, rfl, hb3⟩
  clear HP2 hcv hcell
  go_wp2_with fail
  refine (HKP.out _ (hb3.alloc hb3.size _)).mono ?_
  rintro e w4 ⟨rfl, hw4⟩
  have hw4 := hw4.symm
  subst hw4
  go_wp2_with fail
  refine (hwk.out _ (hb3.alloc hb3.size _)).mono ?_
  rintro e w4 ⟨rfl, hb4⟩
  go_wp2_with fail
  go_ret
  exact ⟨rfl, (hb3.alloc hb3.size _).trans (hb4.mono (by have := hb3.size; simp; omega))⟩

set_option maxRecDepth 100000 in
set_option maxHeartbeats 4000000 in
theorem kept_w3 (a0 a1 : Int) (w : World) (ht : TabS w) (k : Nat) (hk : k < 12) (ek' : wrap64 ((IntKind.u64.wrap a0).tmod 12) = (k : Int)) (em2 : wrap64 ((IntKind.u64.wrap a1).tmod 6) = 3) :
    Calls Tryd.prog 4 #[.int .i64 a0, .int .i64 a1] w fun e w' => e = .returned (.bool true) ∧ Below w.heap.size w w' := by
  obtain ⟨q1, q2⟩ := Pp.kept_3 k hk
  obtain ⟨p1, p2⟩ := Pp.kept_all k (by omega)
  have p3 := Pp.kept_ten k (by omega)
  obtain ⟨t, htt⟩ : ∃ t, t = Pp.keptWords.getD k [] := ⟨_, rfl⟩
  have hcell := kept_cell w k (by omega)
  have hkz : (k : Int) < 12 := by omega
  rw [← htt] at p1 p2 p3 hcell q2 q1
  have hsz : (⟨t.toArray⟩ : ByteArray).size ≤ 10 := by simpa [ByteArray.size] using p2
  have hkp := fun w' (hb : Below w.heap.size w w') => Kept_any t w' (ht.below hb)
  rw [p1] at hkp
  have hwk := hide (fun w' (hb : Below w.heap.size w w') => wakes_any w' (ht.below hb))
  obtain ⟨s, hs⟩ : ∃ s : ByteArray, s = ⟨t.toArray⟩ := ⟨_, rfl⟩
  rw [← hs] at hcell hsz hkp
  have hP := Program_str ((w.alloc (.cells #[.string ⟨#[99, 108, 97, 115, 115]⟩, .string ⟨#[105, 110, 116, 101, 114, 102, 97, 99, 101]⟩, .string ⟨#[101, 120, 116, 101, 110, 100, 115]⟩, .string ⟨#[105, 109, 112, 108, 101, 109, 101, 110, 116, 115]⟩, .string ⟨#[102, 105, 101, 108, 100]⟩, .string ⟨#[115, 116, 97, 116, 105, 99]⟩, .string ⟨#[109, 101, 116, 104, 111, 100]⟩, .string ⟨#[102, 117, 110, 99, 116, 105, 111, 110]⟩, .string ⟨#[108, 111, 99, 97, 108, 115]⟩, .string ⟨#[99, 97, 116, 99, 104]⟩, .string ⟨#[105, 110, 116]⟩, .string ⟨#[118, 111, 105, 100]⟩] 9)).alloc (.cells #[.string ((⟨#[99, 108, 97, 115, 115, 32]⟩ : ByteArray) ++ s ++ (⟨#[32, 123, 32, 125]⟩ : ByteArray)), .string ((⟨#[99, 108, 97, 115, 115, 32, 65, 32, 101, 120, 116, 101, 110, 100, 115, 32]⟩ : ByteArray) ++ s ++ (⟨#[32, 123, 32, 125]⟩ : ByteArray)), .string ((⟨#[99, 108, 97, 115, 115, 32, 65, 32, 123, 32, 102, 105, 101, 108, 100, 32]⟩ : ByteArray) ++ s ++ (⟨#[32, 58, 32, 105, 110, 116, 32, 59, 32, 125]⟩ : ByteArray)), .string ((⟨#[99, 108, 97, 115, 115, 32, 65, 32, 123, 32, 109, 101, 116, 104, 111, 100, 32]⟩ : ByteArray) ++ s ++ (⟨#[32, 40, 32, 41, 32, 105, 110, 116, 32, 59, 32, 125]⟩ : ByteArray)), .string ((⟨#[105, 110, 116, 101, 114, 102, 97, 99, 101, 32]⟩ : ByteArray) ++ s ++ (⟨#[32, 123, 32, 125]⟩ : ByteArray)), .string ((⟨#[99, 108, 97, 115, 115, 32, 65, 32, 123, 32, 102, 105, 101, 108, 100, 32, 120, 32, 58, 32]⟩ : ByteArray) ++ s ++ (⟨#[32, 91, 32, 93, 32, 59, 32, 125]⟩ : ByteArray))] 9)) (ht.below (below_two w _ _)) ((⟨#[99, 108, 97, 115, 115, 32, 65, 32, 123, 32, 109, 101, 116, 104, 111, 100, 32]⟩ : ByteArray) ++ s ++ (⟨#[32, 40, 32, 41, 32, 105, 110, 116, 32, 59, 32, 125]⟩ : ByteArray)) (app3_size _ _ _ (by decide) (by omega) (by decide))
  have hXl : ((⟨#[99, 108, 97, 115, 115, 32, 65, 32, 123, 32, 109, 101, 116, 104, 111, 100, 32]⟩ : ByteArray) ++ s ++ (⟨#[32, 40, 32, 41, 32, 105, 110, 116, 32, 59, 32, 125]⟩ : ByteArray)).data.toList = [99, 108, 97, 115, 115, 32, 65, 32, 123, 32, 109, 101, 116, 104, 111, 100, 32] ++ t ++ [32, 40, 32, 41, 32, 105, 110, 116, 32, 59, 32, 125] := app3 _ _ _ t hs
  have hXs : ((⟨#[99, 108, 97, 115, 115, 32, 65, 32, 123, 32, 109, 101, 116, 104, 111, 100, 32]⟩ : ByteArray) ++ s ++ (⟨#[32, 40, 32, 41, 32, 105, 110, 116, 32, 59, 32, 125]⟩ : ByteArray)).size = 17 + s.size + 12 := app3_len _ _ _
  rw [hXl, q2, q1, size_two, hXs] at hP
  obtain ⟨pl, hpl⟩ : ∃ pl, pl = (Pp.program ([99, 108, 97, 115, 115, 32, 65, 32, 123, 32, 109, 101, 116, 104, 111, 100, 32] ++ t ++ [32, 40, 32, 41, 32, 105, 110, 116, 32, 59, 32, 125])).2.1 := ⟨_, rfl⟩
  rw [← hpl] at hP
  have hP2 : Calls Tryd.prog 6 #[.slice (some ⟨w.heap.size + 1 + 1, 0, none⟩) (17 + s.size + 12) (grownCap ((w.alloc (.cells #[.string ⟨#[99, 108, 97, 115, 115]⟩, .string ⟨#[105, 110, 116, 101, 114, 102, 97, 99, 101]⟩, .string ⟨#[101, 120, 116, 101, 110, 100, 115]⟩, .string ⟨#[105, 109, 112, 108, 101, 109, 101, 110, 116, 115]⟩, .string ⟨#[102, 105, 101, 108, 100]⟩, .string ⟨#[115, 116, 97, 116, 105, 99]⟩, .string ⟨#[109, 101, 116, 104, 111, 100]⟩, .string ⟨#[102, 117, 110, 99, 116, 105, 111, 110]⟩, .string ⟨#[108, 111, 99, 97, 108, 115]⟩, .string ⟨#[99, 97, 116, 99, 104]⟩, .string ⟨#[105, 110, 116]⟩, .string ⟨#[118, 111, 105, 100]⟩] 9)).alloc (.cells #[.string ((⟨#[99, 108, 97, 115, 115, 32]⟩ : ByteArray) ++ s ++ (⟨#[32, 123, 32, 125]⟩ : ByteArray)), .string ((⟨#[99, 108, 97, 115, 115, 32, 65, 32, 101, 120, 116, 101, 110, 100, 115, 32]⟩ : ByteArray) ++ s ++ (⟨#[32, 123, 32, 125]⟩ : ByteArray)), .string ((⟨#[99, 108, 97, 115, 115, 32, 65, 32, 123, 32, 102, 105, 101, 108, 100, 32]⟩ : ByteArray) ++ s ++ (⟨#[32, 58, 32, 105, 110, 116, 32, 59, 32, 125]⟩ : ByteArray)), .string ((⟨#[99, 108, 97, 115, 115, 32, 65, 32, 123, 32, 109, 101, 116, 104, 111, 100, 32]⟩ : ByteArray) ++ s ++ (⟨#[32, 40, 32, 41, 32, 105, 110, 116, 32, 59, 32, 125]⟩ : ByteArray)), .string ((⟨#[105, 110, 116, 101, 114, 102, 97, 99, 101, 32]⟩ : ByteArray) ++ s ++ (⟨#[32, 123, 32, 125]⟩ : ByteArray)), .string ((⟨#[99, 108, 97, 115, 115, 32, 65, 32, 123, 32, 102, 105, 101, 108, 100, 32, 120, 32, 58, 32]⟩ : ByteArray) ++ s ++ (⟨#[32, 91, 32, 93, 32, 59, 32, 125]⟩ : ByteArray))] 9)) (17 + s.size + 12) 0 5)] (Lib.bytesWorld ((w.alloc (.cells #[.string ⟨#[99, 108, 97, 115, 115]⟩, .string ⟨#[105, 110, 116, 101, 114, 102, 97, 99, 101]⟩, .string ⟨#[101, 120, 116, 101, 110, 100, 115]⟩, .string ⟨#[105, 109, 112, 108, 101, 109, 101, 110, 116, 115]⟩, .string ⟨#[102, 105, 101, 108, 100]⟩, .string ⟨#[115, 116, 97, 116, 105, 99]⟩, .string ⟨#[109, 101, 116, 104, 111, 100]⟩, .string ⟨#[102, 117, 110, 99, 116, 105, 111, 110]⟩, .string ⟨#[108, 111, 99, 97, 108, 115]⟩, .string ⟨#[99, 97, 116, 99, 104]⟩, .string ⟨#[105, 110, 116]⟩, .string ⟨#[118, 111, 105, 100]⟩] 9)).alloc (.cells #[.string ((⟨#[99, 108, 97, 115, 115, 32]⟩ : ByteArray) ++ s ++ (⟨#[32, 123, 32, 125]⟩ : ByteArray)), .string ((⟨#[99, 108, 97, 115, 115, 32, 65, 32, 101, 120, 116, 101, 110, 100, 115, 32]⟩ : ByteArray) ++ s ++ (⟨#[32, 123, 32, 125]⟩ : ByteArray)), .string ((⟨#[99, 108, 97, 115, 115, 32, 65, 32, 123, 32, 102, 105, 101, 108, 100, 32]⟩ : ByteArray) ++ s ++ (⟨#[32, 58, 32, 105, 110, 116, 32, 59, 32, 125]⟩ : ByteArray)), .string ((⟨#[99, 108, 97, 115, 115, 32, 65, 32, 123, 32, 109, 101, 116, 104, 111, 100, 32]⟩ : ByteArray) ++ s ++ (⟨#[32, 40, 32, 41, 32, 105, 110, 116, 32, 59, 32, 125]⟩ : ByteArray)), .string ((⟨#[105, 110, 116, 101, 114, 102, 97, 99, 101, 32]⟩ : ByteArray) ++ s ++ (⟨#[32, 123, 32, 125]⟩ : ByteArray)), .string ((⟨#[99, 108, 97, 115, 115, 32, 65, 32, 123, 32, 102, 105, 101, 108, 100, 32, 120, 32, 58, 32]⟩ : ByteArray) ++ s ++ (⟨#[32, 91, 32, 93, 32, 59, 32, 125]⟩ : ByteArray))] 9)) 5 ((⟨#[99, 108, 97, 115, 115, 32, 65, 32, 123, 32, 109, 101, 116, 104, 111, 100, 32]⟩ : ByteArray) ++ s ++ (⟨#[32, 40, 32, 41, 32, 105, 110, 116, 32, 59, 32, 125]⟩ : ByteArray))) fun e w' => ∃ a c, e = .returned (.tuple #[.agg #[.slice a 0 c], .int .i64 (pl : Int), .int .i64 4]) ∧ Below w.heap.size w w' := hP.mono fun e w' ⟨a, c, h1, h2⟩ => ⟨a, c, h1, (below_two w _ _).trans (h2.mono (by omega))⟩
  have HP2 := hide hP2
  have HKP := hide hkp
  have hcv := fun w : World => Lib.run_convert_string_bytes (P := Tryd.prog) w 9 30 5 ((⟨#[99, 108, 97, 115, 115, 32, 65, 32, 123, 32, 109, 101, 116, 104, 111, 100, 32]⟩ : ByteArray) ++ s ++ (⟨#[32, 40, 32, 41, 32, 105, 110, 116, 32, 59, 32, 125]⟩ : ByteArray)) (by kernel_rfl : Tryd.prog.underlying 9 = some .string) (by kernel_rfl) (by kernel_rfl)
  clear ht htt p1 p2 p3 hP hP2 hkp hXl hXs hpl q1 q2
  clear hs
  go_enter Tryd.func4, Tryd.ntmps4
  go_wp2_with fail
  refine HP2.out.mono ?_
  rintro e w3 ⟨av, cv, rfl, hb3⟩
  clear HP2 hcv hcell
  go_wp2_with fail
  refine (HKP.out _ (hb3.alloc hb3.size _)).mono ?_
  rintro e w4 ⟨rfl, hw4⟩
  have hw4 := hw4.symm
  subst hw4
  go_wp2_with fail
  refine (hwk.out _ (hb3.alloc hb3.size _)).mono ?_
  rintro e w4 ⟨rfl, hb4⟩
  go_wp2_with fail
  go_ret
  exact ⟨rfl, (hb3.alloc hb3.size _).trans (hb4.mono (by have := hb3.size; simp; omega))⟩

set_option maxRecDepth 100000 in
set_option maxHeartbeats 4000000 in
theorem kept_w4 (a0 a1 : Int) (w : World) (ht : TabS w) (k : Nat) (hk : k < 12) (ek' : wrap64 ((IntKind.u64.wrap a0).tmod 12) = (k : Int)) (em2 : wrap64 ((IntKind.u64.wrap a1).tmod 6) = 4) :
    Calls Tryd.prog 4 #[.int .i64 a0, .int .i64 a1] w fun e w' => e = .returned (.bool true) ∧ Below w.heap.size w w' := by
  obtain ⟨q1, q2⟩ := Pp.kept_4 k hk
  obtain ⟨p1, p2⟩ := Pp.kept_all k (by omega)
  have p3 := Pp.kept_ten k (by omega)
  obtain ⟨t, htt⟩ : ∃ t, t = Pp.keptWords.getD k [] := ⟨_, rfl⟩
  have hcell := kept_cell w k (by omega)
  have hkz : (k : Int) < 12 := by omega
  rw [← htt] at p1 p2 p3 hcell q2 q1
  have hsz : (⟨t.toArray⟩ : ByteArray).size ≤ 10 := by simpa [ByteArray.size] using p2
  have hkp := fun w' (hb : Below w.heap.size w w') => Kept_any t w' (ht.below hb)
  rw [p1] at hkp
  have hwk := hide (fun w' (hb : Below w.heap.size w w') => wakes_any w' (ht.below hb))
  obtain ⟨s, hs⟩ : ∃ s : ByteArray, s = ⟨t.toArray⟩ := ⟨_, rfl⟩
  rw [← hs] at hcell hsz hkp
  have hP := Program_str ((w.alloc (.cells #[.string ⟨#[99, 108, 97, 115, 115]⟩, .string ⟨#[105, 110, 116, 101, 114, 102, 97, 99, 101]⟩, .string ⟨#[101, 120, 116, 101, 110, 100, 115]⟩, .string ⟨#[105, 109, 112, 108, 101, 109, 101, 110, 116, 115]⟩, .string ⟨#[102, 105, 101, 108, 100]⟩, .string ⟨#[115, 116, 97, 116, 105, 99]⟩, .string ⟨#[109, 101, 116, 104, 111, 100]⟩, .string ⟨#[102, 117, 110, 99, 116, 105, 111, 110]⟩, .string ⟨#[108, 111, 99, 97, 108, 115]⟩, .string ⟨#[99, 97, 116, 99, 104]⟩, .string ⟨#[105, 110, 116]⟩, .string ⟨#[118, 111, 105, 100]⟩] 9)).alloc (.cells #[.string ((⟨#[99, 108, 97, 115, 115, 32]⟩ : ByteArray) ++ s ++ (⟨#[32, 123, 32, 125]⟩ : ByteArray)), .string ((⟨#[99, 108, 97, 115, 115, 32, 65, 32, 101, 120, 116, 101, 110, 100, 115, 32]⟩ : ByteArray) ++ s ++ (⟨#[32, 123, 32, 125]⟩ : ByteArray)), .string ((⟨#[99, 108, 97, 115, 115, 32, 65, 32, 123, 32, 102, 105, 101, 108, 100, 32]⟩ : ByteArray) ++ s ++ (⟨#[32, 58, 32, 105, 110, 116, 32, 59, 32, 125]⟩ : ByteArray)), .string ((⟨#[99, 108, 97, 115, 115, 32, 65, 32, 123, 32, 109, 101, 116, 104, 111, 100, 32]⟩ : ByteArray) ++ s ++ (⟨#[32, 40, 32, 41, 32, 105, 110, 116, 32, 59, 32, 125]⟩ : ByteArray)), .string ((⟨#[105, 110, 116, 101, 114, 102, 97, 99, 101, 32]⟩ : ByteArray) ++ s ++ (⟨#[32, 123, 32, 125]⟩ : ByteArray)), .string ((⟨#[99, 108, 97, 115, 115, 32, 65, 32, 123, 32, 102, 105, 101, 108, 100, 32, 120, 32, 58, 32]⟩ : ByteArray) ++ s ++ (⟨#[32, 91, 32, 93, 32, 59, 32, 125]⟩ : ByteArray))] 9)) (ht.below (below_two w _ _)) ((⟨#[105, 110, 116, 101, 114, 102, 97, 99, 101, 32]⟩ : ByteArray) ++ s ++ (⟨#[32, 123, 32, 125]⟩ : ByteArray)) (app3_size _ _ _ (by decide) (by omega) (by decide))
  have hXl : ((⟨#[105, 110, 116, 101, 114, 102, 97, 99, 101, 32]⟩ : ByteArray) ++ s ++ (⟨#[32, 123, 32, 125]⟩ : ByteArray)).data.toList = [105, 110, 116, 101, 114, 102, 97, 99, 101, 32] ++ t ++ [32, 123, 32, 125] := app3 _ _ _ t hs
  have hXs : ((⟨#[105, 110, 116, 101, 114, 102, 97, 99, 101, 32]⟩ : ByteArray) ++ s ++ (⟨#[32, 123, 32, 125]⟩ : ByteArray)).size = 10 + s.size + 4 := app3_len _ _ _
  rw [hXl, q2, q1, size_two, hXs] at hP
  obtain ⟨pl, hpl⟩ : ∃ pl, pl = (Pp.program ([105, 110, 116, 101, 114, 102, 97, 99, 101, 32] ++ t ++ [32, 123, 32, 125])).2.1 := ⟨_, rfl⟩
  rw [← hpl] at hP
  have hP2 : Calls Tryd.prog 6 #[.slice (some ⟨w.heap.size + 1 + 1, 0, none⟩) (10 + s.size + 4) (grownCap ((w.alloc (.cells #[.string ⟨#[99, 108, 97, 115, 115]⟩, .string ⟨#[105, 110, 116, 101, 114, 102, 97, 99, 101]⟩, .string ⟨#[101, 120, 116, 101, 110, 100, 115]⟩, .string ⟨#[105, 109, 112, 108, 101, 109, 101, 110, 116, 115]⟩, .string ⟨#[102, 105, 101, 108, 100]⟩, .string ⟨#[115, 116, 97, 116, 105, 99]⟩, .string ⟨#[109, 101, 116, 104, 111, 100]⟩, .string ⟨#[102, 117, 110, 99, 116, 105, 111, 110]⟩, .string ⟨#[108, 111, 99, 97, 108, 115]⟩, .string ⟨#[99, 97, 116, 99, 104]⟩, .string ⟨#[105, 110, 116]⟩, .string ⟨#[118, 111, 105, 100]⟩] 9)).alloc (.cells #[.string ((⟨#[99, 108, 97, 115, 115, 32]⟩ : ByteArray) ++ s ++ (⟨#[32, 123, 32, 125]⟩ : ByteArray)), .string ((⟨#[99, 108, 97, 115, 115, 32, 65, 32, 101, 120, 116, 101, 110, 100, 115, 32]⟩ : ByteArray) ++ s ++ (⟨#[32, 123, 32, 125]⟩ : ByteArray)), .string ((⟨#[99, 108, 97, 115, 115, 32, 65, 32, 123, 32, 102, 105, 101, 108, 100, 32]⟩ : ByteArray) ++ s ++ (⟨#[32, 58, 32, 105, 110, 116, 32, 59, 32, 125]⟩ : ByteArray)), .string ((⟨#[99, 108, 97, 115, 115, 32, 65, 32, 123, 32, 109, 101, 116, 104, 111, 100, 32]⟩ : ByteArray) ++ s ++ (⟨#[32, 40, 32, 41, 32, 105, 110, 116, 32, 59, 32, 125]⟩ : ByteArray)), .string ((⟨#[105, 110, 116, 101, 114, 102, 97, 99, 101, 32]⟩ : ByteArray) ++ s ++ (⟨#[32, 123, 32, 125]⟩ : ByteArray)), .string ((⟨#[99, 108, 97, 115, 115, 32, 65, 32, 123, 32, 102, 105, 101, 108, 100, 32, 120, 32, 58, 32]⟩ : ByteArray) ++ s ++ (⟨#[32, 91, 32, 93, 32, 59, 32, 125]⟩ : ByteArray))] 9)) (10 + s.size + 4) 0 5)] (Lib.bytesWorld ((w.alloc (.cells #[.string ⟨#[99, 108, 97, 115, 115]⟩, .string ⟨#[105, 110, 116, 101, 114, 102, 97, 99, 101]⟩, .string ⟨#[101, 120, 116, 101, 110, 100, 115]⟩, .string ⟨#[105, 109, 112, 108, 101, 109, 101, 110, 116, 115]⟩, .string ⟨#[102, 105, 101, 108, 100]⟩, .string ⟨#[115, 116, 97, 116, 105, 99]⟩, .string ⟨#[109, 101, 116, 104, 111, 100]⟩, .string ⟨#[102, 117, 110, 99, 116, 105, 111, 110]⟩, .string ⟨#[108, 111, 99, 97, 108, 115]⟩, .string ⟨#[99, 97, 116, 99, 104]⟩, .string ⟨#[105, 110, 116]⟩, .string ⟨#[118, 111, 105, 100]⟩] 9)).alloc (.cells #[.string ((⟨#[99, 108, 97, 115, 115, 32]⟩ : ByteArray) ++ s ++ (⟨#[32, 123, 32, 125]⟩ : ByteArray)), .string ((⟨#[99, 108, 97, 115, 115, 32, 65, 32, 101, 120, 116, 101, 110, 100, 115, 32]⟩ : ByteArray) ++ s ++ (⟨#[32, 123, 32, 125]⟩ : ByteArray)), .string ((⟨#[99, 108, 97, 115, 115, 32, 65, 32, 123, 32, 102, 105, 101, 108, 100, 32]⟩ : ByteArray) ++ s ++ (⟨#[32, 58, 32, 105, 110, 116, 32, 59, 32, 125]⟩ : ByteArray)), .string ((⟨#[99, 108, 97, 115, 115, 32, 65, 32, 123, 32, 109, 101, 116, 104, 111, 100, 32]⟩ : ByteArray) ++ s ++ (⟨#[32, 40, 32, 41, 32, 105, 110, 116, 32, 59, 32, 125]⟩ : ByteArray)), .string ((⟨#[105, 110, 116, 101, 114, 102, 97, 99, 101, 32]⟩ : ByteArray) ++ s ++ (⟨#[32, 123, 32, 125]⟩ : ByteArray)), .string ((⟨#[99, 108, 97, 115, 115, 32, 65, 32, 123, 32, 102, 105, 101, 108, 100, 32, 120, 32, 58, 32]⟩ : ByteArray) ++ s ++ (⟨#[32, 91, 32, 93, 32, 59, 32, 125]⟩ : ByteArray))] 9)) 5 ((⟨#[105, 110, 116, 101, 114, 102, 97, 99, 101, 32]⟩ : ByteArray) ++ s ++ (⟨#[32, 123, 32, 125]⟩ : ByteArray))) fun e w' => ∃ a c, e = .returned (.tuple #[.agg #[.slice a 0 c], .int .i64 (pl : Int), .int .i64 4]) ∧ Below w.heap.size w w' := hP.mono fun e w' ⟨a, c, h1, h2⟩ => ⟨a, c, h1, (below_two w _ _).trans (h2.mono (by omega))⟩
  have HP2 := hide hP2
  have HKP := hide hkp
  have hcv := fun w : World => Lib.run_convert_string_bytes (P := Tryd.prog) w 9 30 5 ((⟨#[105, 110, 116, 101, 114, 102, 97, 99, 101, 32]⟩ : ByteArray) ++ s ++ (⟨#[32, 123, 32, 125]⟩ : ByteArray)) (by kernel_rfl : Tryd.prog.underlying 9 = some .string) (by kernel_rfl) (by kernel_rfl)
  clear ht htt p1 p2 p3 hP hP2 hkp hXl hXs hpl q1 q2
  clear hs
  go_enter Tryd.func4, Tryd.ntmps4
  go_wp2_with fail
  refine HP2.out.mono ?_
  rintro e w3 ⟨av, cv, rfl, hb3⟩
  clear HP2 hcv hcell
  go_wp2_with fail
  refine (HKP.out _ (hb3.alloc hb3.size _)).mono ?_
  rintro e w4 ⟨rfl, hw4⟩
  have hw4 := hw4.symm
  subst hw4
  go_wp2_with fail
  refine (hwk.out _ (hb3.alloc hb3.size _)).mono ?_
  rintro e w4 ⟨rfl, hb4⟩
  go_wp2_with fail
  go_ret
  exact ⟨rfl, (hb3.alloc hb3.size _).trans (hb4.mono (by have := hb3.size; simp; omega))⟩

set_option maxRecDepth 100000 in
set_option maxHeartbeats 4000000 in
theorem kept_w5 (a0 a1 : Int) (w : World) (ht : TabS w) (k : Nat) (hk : k < 12) (ek' : wrap64 ((IntKind.u64.wrap a0).tmod 12) = (k : Int)) (em2 : wrap64 ((IntKind.u64.wrap a1).tmod 6) = 5) (h10 : k ≠ 10) :
    Calls Tryd.prog 4 #[.int .i64 a0, .int .i64 a1] w fun e w' => e = .returned (.bool true) ∧ Below w.heap.size w w' := by
  obtain ⟨q1, q2⟩ := Pp.kept_5 k hk h10
  obtain ⟨p1, p2⟩ := Pp.kept_all k (by omega)
  have p3 := Pp.kept_ten k (by omega)
  obtain ⟨t, htt⟩ : ∃ t, t = Pp.keptWords.getD k [] := ⟨_, rfl⟩
  have hcell := kept_cell w k (by omega)
  have hkz : (k : Int) < 12 := by omega
  rw [← htt] at p1 p2 p3 hcell q2 q1
  have hsz : (⟨t.toArray⟩ : ByteArray).size ≤ 10 := by simpa [ByteArray.size] using p2
  have hkp := fun w' (hb : Below w.heap.size w w') => Kept_any t w' (ht.below hb)
  rw [p1] at hkp
  have hwk := hide (fun w' (hb : Below w.heap.size w w') => wakes_any w' (ht.below hb))
  obtain ⟨s, hs⟩ : ∃ s : ByteArray, s = ⟨t.toArray⟩ := ⟨_, rfl⟩
  rw [← hs] at hcell hsz hkp
  have hP := Program_str ((w.alloc (.cells #[.string ⟨#[99, 108, 97, 115, 115]⟩, .string ⟨#[105, 110, 116, 101, 114, 102, 97, 99, 101]⟩, .string ⟨#[101, 120, 116, 101, 110, 100, 115]⟩, .string ⟨#[105, 109, 112, 108, 101, 109, 101, 110, 116, 115]⟩, .string ⟨#[102, 105, 101, 108, 100]⟩, .string ⟨#[115, 116, 97, 116, 105, 99]⟩, .string ⟨#[109, 101, 116, 104, 111, 100]⟩, .string ⟨#[102, 117, 110, 99, 116, 105, 111, 110]⟩, .string ⟨#[108, 111, 99, 97, 108, 115]⟩, .string ⟨#[99, 97, 116, 99, 104]⟩, .string ⟨#[105, 110, 116]⟩, .string ⟨#[118, 111, 105, 100]⟩] 9)).alloc (.cells #[.string ((⟨#[99, 108, 97, 115, 115, 32]⟩ : ByteArray) ++ s ++ (⟨#[32, 123, 32, 125]⟩ : ByteArray)), .string ((⟨#[99, 108, 97, 115, 115, 32, 65, 32, 101, 120, 116, 101, 110, 100, 115, 32]⟩ : ByteArray) ++ s ++ (⟨#[32, 123, 32, 125]⟩ : ByteArray)), .string ((⟨#[99, 108, 97, 115, 115, 32, 65, 32, 123, 32, 102, 105, 101, 108, 100, 32]⟩ : ByteArray) ++ s ++ (⟨#[32, 58, 32, 105, 110, 116, 32, 59, 32, 125]⟩ : ByteArray)), .string ((⟨#[99, 108, 97, 115, 115, 32, 65, 32, 123, 32, 109, 101, 116, 104, 111, 100, 32]⟩ : ByteArray) ++ s ++ (⟨#[32, 40, 32, 41, 32, 105, 110, 116, 32, 59, 32, 125]⟩ : ByteArray)), .string ((⟨#[105, 110, 116, 101, 114, 102, 97, 99, 101, 32]⟩ : ByteArray) ++ s ++ (⟨#[32, 123, 32, 125]⟩ : ByteArray)), .string ((⟨#[99, 108, 97, 115, 115, 32, 65, 32, 123, 32, 102, 105, 101, 108, 100, 32, 120, 32, 58, 32]⟩ : ByteArray) ++ s ++ (⟨#[32, 91, 32, 93, 32, 59, 32, 125]⟩ : ByteArray))] 9)) (ht.below (below_two w _ _)) ((⟨#[99, 108, 97, 115, 115, 32, 65, 32, 123, 32, 102, 105, 101, 108, 100, 32, 120, 32, 58, 32]⟩ : ByteArray) ++ s ++ (⟨#[32, 91, 32, 93, 32, 59, 32, 125]⟩ : ByteArray)) (app3_size _ _ _ (by decide) (by omega) (by decide))
  have hXl : ((⟨#[99, 108, 97, 115, 115, 32, 65, 32, 123, 32, 102, 105, 101, 108, 100, 32, 120, 32, 58, 32]⟩ : ByteArray) ++ s ++ (⟨#[32, 91, 32, 93, 32, 59, 32, 125]⟩ : ByteArray)).data.toList = [99, 108, 97, 115, 115, 32, 65, 32, 123, 32, 102, 105, 101, 108, 100, 32, 120, 32, 58, 32] ++ t ++ [32, 91, 32, 93, 32, 59, 32, 125] := app3 _ _ _ t hs
  have hXs : ((⟨#[99, 108, 97, 115, 115, 32, 65, 32, 123, 32, 102, 105, 101, 108, 100, 32, 120, 32, 58, 32]⟩ : ByteArray) ++ s ++ (⟨#[32, 91, 32, 93, 32, 59, 32, 125]⟩ : ByteArray)).size = 20 + s.size + 8 := app3_len _ _ _
  rw [hXl, q2, q1, size_two, hXs] at hP
  obtain ⟨pl, hpl⟩ : ∃ pl, pl = (Pp.program ([99, 108, 97, 115, 115, 32, 65, 32, 123, 32, 102, 105, 101, 108, 100, 32, 120, 32, 58, 32] ++ t ++ [32, 91, 32, 93, 32, 59, 32, 125])).2.1 := ⟨_, rfl⟩
  rw [← hpl] at hP
  have hP2 : Calls Tryd.prog 6 #[.slice (some ⟨w.heap.size + 1 + 1, 0, none⟩) (20 + s.size + 8) (grownCap ((w.alloc (.cells #[.string ⟨#[99, 108, 97, 115, 115]⟩, .string ⟨#[105, 110, 116, 101, 114, 102, 97, 99, 101]⟩, .string ⟨#[101, 120, 116, 101, 110, 100, 115]⟩, .string ⟨#[105, 109, 112, 108, 101, 109, 101, 110, 116, 115]⟩, .string ⟨#[102, 105, 101, 108, 100]⟩, .string ⟨#[115, 116, 97, 116, 105, 99]⟩, .string ⟨#[109, 101, 116, 104, 111, 100]⟩, .string ⟨#[102, 117, 110, 99, 116, 105, 111, 110]⟩, .string ⟨#[108, 111, 99, 97, 108, 115]⟩, .string ⟨#[99, 97, 116, 99, 104]⟩, .string ⟨#[105, 110, 116]⟩, .string ⟨#[118, 111, 105, 100]⟩] 9)).alloc (.cells #[.string ((⟨#[99, 108, 97, 115, 115, 32]⟩ : ByteArray) ++ s ++ (⟨#[32, 123, 32, 125]⟩ : ByteArray)), .string ((⟨#[99, 108, 97, 115, 115, 32, 65, 32, 101, 120, 116, 101, 110, 100, 115, 32]⟩ : ByteArray) ++ s ++ (⟨#[32, 123, 32, 125]⟩ : ByteArray)), .string ((⟨#[99, 108, 97, 115, 115, 32, 65, 32, 123, 32, 102, 105, 101, 108, 100, 32]⟩ : ByteArray) ++ s ++ (⟨#[32, 58, 32, 105, 110, 116, 32, 59, 32, 125]⟩ : ByteArray)), .string ((⟨#[99, 108, 97, 115, 115, 32, 65, 32, 123, 32, 109, 101, 116, 104, 111, 100, 32]⟩ : ByteArray) ++ s ++ (⟨#[32, 40, 32, 41, 32, 105, 110, 116, 32, 59, 32, 125]⟩ : ByteArray)), .string ((⟨#[105, 110, 116, 101, 114, 102, 97, 99, 101, 32]⟩ : ByteArray) ++ s ++ (⟨#[32, 123, 32, 125]⟩ : ByteArray)), .string ((⟨#[99, 108, 97, 115, 115, 32, 65, 32, 123, 32, 102, 105, 101, 108, 100, 32, 120, 32, 58, 32]⟩ : ByteArray) ++ s ++ (⟨#[32, 91, 32, 93, 32, 59, 32, 125]⟩ : ByteArray))] 9)) (20 + s.size + 8) 0 5)] (Lib.bytesWorld ((w.alloc (.cells #[.string ⟨#[99, 108, 97, 115, 115]⟩, .string ⟨#[105, 110, 116, 101, 114, 102, 97, 99, 101]⟩, .string ⟨#[101, 120, 116, 101, 110, 100, 115]⟩, .string ⟨#[105, 109, 112, 108, 101, 109, 101, 110, 116, 115]⟩, .string ⟨#[102, 105, 101, 108, 100]⟩, .string ⟨#[115, 116, 97, 116, 105, 99]⟩, .string ⟨#[109, 101, 116, 104, 111, 100]⟩, .string ⟨#[102, 117, 110, 99, 116, 105, 111, 110]⟩, .string ⟨#[108, 111, 99, 97, 108, 115]⟩, .string ⟨#[99, 97, 116, 99, 104]⟩, .string ⟨#[105, 110, 116]⟩, .string ⟨#[118, 111, 105, 100]⟩] 9)).alloc (.cells #[.string ((⟨#[99, 108, 97, 115, 115, 32]⟩ : ByteArray) ++ s ++ (⟨#[32, 123, 32, 125]⟩ : ByteArray)), .string ((⟨#[99, 108, 97, 115, 115, 32, 65, 32, 101, 120, 116, 101, 110, 100, 115, 32]⟩ : ByteArray) ++ s ++ (⟨#[32, 123, 32, 125]⟩ : ByteArray)), .string ((⟨#[99, 108, 97, 115, 115, 32, 65, 32, 123, 32, 102, 105, 101, 108, 100, 32]⟩ : ByteArray) ++ s ++ (⟨#[32, 58, 32, 105, 110, 116, 32, 59, 32, 125]⟩ : ByteArray)), .string ((⟨#[99, 108, 97, 115, 115, 32, 65, 32, 123, 32, 109, 101, 116, 104, 111, 100, 32]⟩ : ByteArray) ++ s ++ (⟨#[32, 40, 32, 41, 32, 105, 110, 116, 32, 59, 32, 125]⟩ : ByteArray)), .string ((⟨#[105, 110, 116, 101, 114, 102, 97, 99, 101, 32]⟩ : ByteArray) ++ s ++ (⟨#[32, 123, 32, 125]⟩ : ByteArray)), .string ((⟨#[99, 108, 97, 115, 115, 32, 65, 32, 123, 32, 102, 105, 101, 108, 100, 32, 120, 32, 58, 32]⟩ : ByteArray) ++ s ++ (⟨#[32, 91, 32, 93, 32, 59, 32, 125]⟩ : ByteArray))] 9)) 5 ((⟨#[99, 108, 97, 115, 115, 32, 65, 32, 123, 32, 102, 105, 101, 108, 100, 32, 120, 32, 58, 32]⟩ : ByteArray) ++ s ++ (⟨#[32, 91, 32, 93, 32, 59, 32, 125]⟩ : ByteArray))) fun e w' => ∃ a c, e = .returned (.tuple #[.agg #[.slice a 0 c], .int .i64 (pl : Int), .int .i64 4]) ∧ Below w.heap.size w w' := hP.mono fun e w' ⟨a, c, h1, h2⟩ => ⟨a, c, h1, (below_two w _ _).trans (h2.mono (by omega))⟩
  have HP2 := hide hP2
  have HKP := hide hkp
  have hsi : (t == [105, 110, 116]) = false := by rw [p3]; simp [h10]
  have hsi4 : (s.toList == [105, 110, 116]) = false := by rw [hs, toList_mk]; exact hsi
  have hcv := fun w : World => Lib.run_convert_string_bytes (P := Tryd.prog) w 9 30 5 ((⟨#[99, 108, 97, 115, 115, 32, 65, 32, 123, 32, 102, 105, 101, 108, 100, 32, 120, 32, 58, 32]⟩ : ByteArray) ++ s ++ (⟨#[32, 91, 32, 93, 32, 59, 32, 125]⟩ : ByteArray)) (by kernel_rfl : Tryd.prog.underlying 9 = some .string) (by kernel_rfl) (by kernel_rfl)
  clear ht htt p1 p2 p3 hP hP2 hkp hXl hXs hpl q1 q2 h10
  clear hs
  go_enter Tryd.func4, Tryd.ntmps4
  go_wp2_with fail
  refine HP2.out.mono ?_
  rintro e w3 ⟨av, cv, rfl, hb3⟩
  clear HP2 hcv hcell
  go_wp2_with fail
  refine (HKP.out _ (hb3.alloc hb3.size _)).mono ?_
  rintro e w4 ⟨rfl, hw4⟩
  have hw4 := hw4.symm
  subst hw4
  go_wp2_with fail
  refine (hwk.out _ (hb3.alloc hb3.size _)).mono ?_
  rintro e w4 ⟨rfl, hb4⟩
  go_wp2_with fail
  go_ret
  exact ⟨rfl, (hb3.alloc hb3.size _).trans (hb4.mono (by have := hb3.size; simp; omega))⟩

set_option maxRecDepth 100000 in
set_option maxHeartbeats 4000000 in
theorem kept_w5i (a0 a1 : Int) (w : World) (ht : TabS w) (k : Nat) (hk : k < 12) (ek' : wrap64 ((IntKind.u64.wrap a0).tmod 12) = (k : Int)) (em2 : wrap64 ((IntKind.u64.wrap a1).tmod 6) = 5) (h10 : k = 10) :
    Calls Tryd.prog 4 #[.int .i64 a0, .int .i64 a1] w fun e w' => e = .returned (.bool true) ∧ Below w.heap.size w w' := by
  subst h10
  have q2 := Pp.kept_int
  obtain ⟨p1, p2⟩ := Pp.kept_all 10 (by omega)
  have p3 := Pp.kept_ten 10 (by omega)
  obtain ⟨t, htt⟩ : ∃ t, t = Pp.keptWords.getD 10 [] := ⟨_, rfl⟩
  have hcell := kept_cell w 10 (by omega)
  have hkz : (10 : Int) < 12 := by decide
  rw [← htt] at p1 p2 p3 hcell q2
  have hsz : (⟨t.toArray⟩ : ByteArray).size ≤ 10 := by simpa [ByteArray.size] using p2
  have hkp := fun w' (hb : Below w.heap.size w w') => Kept_any t w' (ht.below hb)
  rw [p1] at hkp
  have hwk := hide (fun w' (hb : Below w.heap.size w w') => wakes_any w' (ht.below hb))
  obtain ⟨s, hs⟩ : ∃ s : ByteArray, s = ⟨t.toArray⟩ := ⟨_, rfl⟩
  rw [← hs] at hcell hsz hkp
  have hP := Program_str ((w.alloc (.cells #[.string ⟨#[99, 108, 97, 115, 115]⟩, .string ⟨#[105, 110, 116, 101, 114, 102, 97, 99, 101]⟩, .string ⟨#[101, 120, 116, 101, 110, 100, 115]⟩, .string ⟨#[105, 109, 112, 108, 101, 109, 101, 110, 116, 115]⟩, .string ⟨#[102, 105, 101, 108, 100]⟩, .string ⟨#[115, 116, 97, 116, 105, 99]⟩, .string ⟨#[109, 101, 116, 104, 111, 100]⟩, .string ⟨#[102, 117, 110, 99, 116, 105, 111, 110]⟩, .string ⟨#[108, 111, 99, 97, 108, 115]⟩, .string ⟨#[99, 97, 116, 99, 104]⟩, .string ⟨#[105, 110, 116]⟩, .string ⟨#[118, 111, 105, 100]⟩] 9)).alloc (.cells #[.string ((⟨#[99, 108, 97, 115, 115, 32]⟩ : ByteArray) ++ s ++ (⟨#[32, 123, 32, 125]⟩ : ByteArray)), .string ((⟨#[99, 108, 97, 115, 115, 32, 65, 32, 101, 120, 116, 101, 110, 100, 115, 32]⟩ : ByteArray) ++ s ++ (⟨#[32, 123, 32, 125]⟩ : ByteArray)), .string ((⟨#[99, 108, 97, 115, 115, 32, 65, 32, 123, 32, 102, 105, 101, 108, 100, 32]⟩ : ByteArray) ++ s ++ (⟨#[32, 58, 32, 105, 110, 116, 32, 59, 32, 125]⟩ : ByteArray)), .string ((⟨#[99, 108, 97, 115, 115, 32, 65, 32, 123, 32, 109, 101, 116, 104, 111, 100, 32]⟩ : ByteArray) ++ s ++ (⟨#[32, 40, 32, 41, 32, 105, 110, 116, 32, 59, 32, 125]⟩ : ByteArray)), .string ((⟨#[105, 110, 116, 101, 114, 102, 97, 99, 101, 32]⟩ : ByteArray) ++ s ++ (⟨#[32, 123, 32, 125]⟩ : ByteArray)), .string ((⟨#[99, 108, 97, 115, 115, 32, 65, 32, 123, 32, 102, 105, 101, 108, 100, 32, 120, 32, 58, 32]⟩ : ByteArray) ++ s ++ (⟨#[32, 91, 32, 93, 32, 59, 32, 125]⟩ : ByteArray))] 9)) (ht.below (below_two w _ _)) ((⟨#[99, 108, 97, 115, 115, 32, 65, 32, 123, 32, 102, 105, 101, 108, 100, 32, 120, 32, 58, 32]⟩ : ByteArray) ++ s ++ (⟨#[32, 91, 32, 93, 32, 59, 32, 125]⟩ : ByteArray)) (app3_size _ _ _ (by decide) (by omega) (by decide))
  have hXl : ((⟨#[99, 108, 97, 115, 115, 32, 65, 32, 123, 32, 102, 105, 101, 108, 100, 32, 120, 32, 58, 32]⟩ : ByteArray) ++ s ++ (⟨#[32, 91, 32, 93, 32, 59, 32, 125]⟩ : ByteArray)).data.toList = [99, 108, 97, 115, 115, 32, 65, 32, 123, 32, 102, 105, 101, 108, 100, 32, 120, 32, 58, 32] ++ t ++ [32, 91, 32, 93, 32, 59, 32, 125] := app3 _ _ _ t hs
  have hXs : ((⟨#[99, 108, 97, 115, 115, 32, 65, 32, 123, 32, 102, 105, 101, 108, 100, 32, 120, 32, 58, 32]⟩ : ByteArray) ++ s ++ (⟨#[32, 91, 32, 93, 32, 59, 32, 125]⟩ : ByteArray)).size = 20 + s.size + 8 := app3_len _ _ _
  rw [hXl, q2, size_two, hXs] at hP
  obtain ⟨pl, hpl⟩ : ∃ pl, pl = (Pp.program ([99, 108, 97, 115, 115, 32, 65, 32, 123, 32, 102, 105, 101, 108, 100, 32, 120, 32, 58, 32] ++ t ++ [32, 91, 32, 93, 32, 59, 32, 125])).2.1 := ⟨_, rfl⟩
  rw [← hpl] at hP
  obtain ⟨nn, hnn⟩ : ∃ nn, nn = (Pp.program ([99, 108, 97, 115, 115, 32, 65, 32, 123, 32, 102, 105, 101, 108, 100, 32, 120, 32, 58, 32] ++ t ++ [32, 91, 32, 93, 32, 59, 32, 125])).1.length := ⟨_, rfl⟩
  rw [← hnn] at hP
  have hP2 : Calls Tryd.prog 6 #[.slice (some ⟨w.heap.size + 1 + 1, 0, none⟩) (20 + s.size + 8) (grownCap ((w.alloc (.cells #[.string ⟨#[99, 108, 97, 115, 115]⟩, .string ⟨#[105, 110, 116, 101, 114, 102, 97, 99, 101]⟩, .string ⟨#[101, 120, 116, 101, 110, 100, 115]⟩, .string ⟨#[105, 109, 112, 108, 101, 109, 101, 110, 116, 115]⟩, .string ⟨#[102, 105, 101, 108, 100]⟩, .string ⟨#[115, 116, 97, 116, 105, 99]⟩, .string ⟨#[109, 101, 116, 104, 111, 100]⟩, .string ⟨#[102, 117, 110, 99, 116, 105, 111, 110]⟩, .string ⟨#[108, 111, 99, 97, 108, 115]⟩, .string ⟨#[99, 97, 116, 99, 104]⟩, .string ⟨#[105, 110, 116]⟩, .string ⟨#[118, 111, 105, 100]⟩] 9)).alloc (.cells #[.string ((⟨#[99, 108, 97, 115, 115, 32]⟩ : ByteArray) ++ s ++ (⟨#[32, 123, 32, 125]⟩ : ByteArray)), .string ((⟨#[99, 108, 97, 115, 115, 32, 65, 32, 101, 120, 116, 101, 110, 100, 115, 32]⟩ : ByteArray) ++ s ++ (⟨#[32, 123, 32, 125]⟩ : ByteArray)), .string ((⟨#[99, 108, 97, 115, 115, 32, 65, 32, 123, 32, 102, 105, 101, 108, 100, 32]⟩ : ByteArray) ++ s ++ (⟨#[32, 58, 32, 105, 110, 116, 32, 59, 32, 125]⟩ : ByteArray)), .string ((⟨#[99, 108, 97, 115, 115, 32, 65, 32, 123, 32, 109, 101, 116, 104, 111, 100, 32]⟩ : ByteArray) ++ s ++ (⟨#[32, 40, 32, 41, 32, 105, 110, 116, 32, 59, 32, 125]⟩ : ByteArray)), .string ((⟨#[105, 110, 116, 101, 114, 102, 97, 99, 101, 32]⟩ : ByteArray) ++ s ++ (⟨#[32, 123, 32, 125]⟩ : ByteArray)), .string ((⟨#[99, 108, 97, 115, 115, 32, 65, 32, 123, 32, 102, 105, 101, 108, 100, 32, 120, 32, 58, 32]⟩ : ByteArray) ++ s ++ (⟨#[32, 91, 32, 93, 32, 59, 32, 125]⟩ : ByteArray))] 9)) (20 + s.size + 8) 0 5)] (Lib.bytesWorld ((w.alloc (.cells #[.string ⟨#[99, 108, 97, 115, 115]⟩, .string ⟨#[105, 110, 116, 101, 114, 102, 97, 99, 101]⟩, .string ⟨#[101, 120, 116, 101, 110, 100, 115]⟩, .string ⟨#[105, 109, 112, 108, 101, 109, 101, 110, 116, 115]⟩, .string ⟨#[102, 105, 101, 108, 100]⟩, .string ⟨#[115, 116, 97, 116, 105, 99]⟩, .string ⟨#[109, 101, 116, 104, 111, 100]⟩, .string ⟨#[102, 117, 110, 99, 116, 105, 111, 110]⟩, .string ⟨#[108, 111, 99, 97, 108, 115]⟩, .string ⟨#[99, 97, 116, 99, 104]⟩, .string ⟨#[105, 110, 116]⟩, .string ⟨#[118, 111, 105, 100]⟩] 9)).alloc (.cells #[.string ((⟨#[99, 108, 97, 115, 115, 32]⟩ : ByteArray) ++ s ++ (⟨#[32, 123, 32, 125]⟩ : ByteArray)), .string ((⟨#[99, 108, 97, 115, 115, 32, 65, 32, 101, 120, 116, 101, 110, 100, 115, 32]⟩ : ByteArray) ++ s ++ (⟨#[32, 123, 32, 125]⟩ : ByteArray)), .string ((⟨#[99, 108, 97, 115, 115, 32, 65, 32, 123, 32, 102, 105, 101, 108, 100, 32]⟩ : ByteArray) ++ s ++ (⟨#[32, 58, 32, 105, 110, 116, 32, 59, 32, 125]⟩ : ByteArray)), .string ((⟨#[99, 108, 97, 115, 115, 32, 65, 32, 123, 32, 109, 101, 116, 104, 111, 100, 32]⟩ : ByteArray) ++ s ++ (⟨#[32, 40, 32, 41, 32, 105, 110, 116, 32, 59, 32, 125]⟩ : ByteArray)), .string ((⟨#[105, 110, 116, 101, 114, 102, 97, 99, 101, 32]⟩ : ByteArray) ++ s ++ (⟨#[32, 123, 32, 125]⟩ : ByteArray)), .string ((⟨#[99, 108, 97, 115, 115, 32, 65, 32, 123, 32, 102, 105, 101, 108, 100, 32, 120, 32, 58, 32]⟩ : ByteArray) ++ s ++ (⟨#[32, 91, 32, 93, 32, 59, 32, 125]⟩ : ByteArray))] 9)) 5 ((⟨#[99, 108, 97, 115, 115, 32, 65, 32, 123, 32, 102, 105, 101, 108, 100, 32, 120, 32, 58, 32]⟩ : ByteArray) ++ s ++ (⟨#[32, 91, 32, 93, 32, 59, 32, 125]⟩ : ByteArray))) fun e w' => ∃ a c, e = .returned (.tuple #[.agg #[.slice a nn c], .int .i64 (pl : Int), .int .i64 0]) ∧ Below w.heap.size w w' := hP.mono fun e w' ⟨a, c, h1, h2⟩ => ⟨a, c, h1, (below_two w _ _).trans (h2.mono (by omega))⟩
  have HP2 := hide hP2
  have HKP := hide hkp
  have hsi : s = ⟨#[105, 110, 116]⟩ := by rw [hs, htt]; rfl
  have hcv := fun w : World => Lib.run_convert_string_bytes (P := Tryd.prog) w 9 30 5 ((⟨#[99, 108, 97, 115, 115, 32, 65, 32, 123, 32, 102, 105, 101, 108, 100, 32, 120, 32, 58, 32]⟩ : ByteArray) ++ s ++ (⟨#[32, 91, 32, 93, 32, 59, 32, 125]⟩ : ByteArray)) (by kernel_rfl : Tryd.prog.underlying 9 = some .string) (by kernel_rfl) (by kernel_rfl)
  clear ht htt p1 p2 p3 hP hP2 hkp hXl hXs hpl hnn q2
  clear hs; subst hsi
  go_enter Tryd.func4, Tryd.ntmps4
  go_wp2_with fail
  refine HP2.out.mono ?_
  rintro e w3 ⟨av, cv, rfl, hb3⟩
  clear HP2 hcv hcell
  go_wp2_with fail
  refine (hwk.out _ (hb3.alloc hb3.size _)).mono ?_
  rintro e w4 ⟨rfl, hb4⟩
  go_wp2_with fail
  go_ret
  exact ⟨rfl, (hb3.alloc hb3.size _).trans (hb4.mono (by have := hb3.size; simp; omega))⟩

theorem kept_walk (a0 a1 : Int) (w : World) (ht : TabS w) :
    Calls Tryd.prog 4 #[.int .i64 a0, .int .i64 a1] w fun e w' => e = .returned (.bool true) ∧ Below w.heap.size w w' := by
  obtain ⟨k, hk, ek⟩ := mod_range a0 12 (by decide) (by decide)
  obtain ⟨m, hm, em⟩ := mod_range a1 6 (by decide) (by decide)
  obtain rfl | rfl | rfl | rfl | rfl | rfl : m = 0 ∨ m = 1 ∨ m = 2 ∨ m = 3 ∨ m = 4 ∨ m = 5 := by omega
  · exact kept_w0 a0 a1 w ht k hk ek em
  · exact kept_w1 a0 a1 w ht k hk ek em
  · exact kept_w2 a0 a1 w ht k hk ek em
  · exact kept_w3 a0 a1 w ht k hk ek em
  · exact kept_w4 a0 a1 w ht k hk ek em
  · by_cases h : k = 10
    · exact kept_w5i a0 a1 w ht k hk ek em h
    · exact kept_w5 a0 a1 w ht k hk ek em h
end Go.Proofs.YtpngpkbnhepleabDoor

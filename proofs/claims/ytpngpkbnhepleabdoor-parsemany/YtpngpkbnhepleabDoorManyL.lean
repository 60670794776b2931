/- ParseMany: the walk. -/
import Derived.Test.YtpngpkbnhepleabDoorProgStr
namespace Go.Proofs.YtpngpkbnhepleabDoor
open Go.RowKit
set_option linter.unusedVariables false
set_option linter.unusedSimpArgs false

namespace Pp
def rep (one : Bs) : Nat → Bs
  | 0 => []
  | k + 1 => rep one k ++ one
theorem rep_len (one : Bs) (h : one.length ≤ 20) : ∀ k, (rep one k).length ≤ 20 * k
  | 0 => by simp [rep]
  | k + 1 => by rw [rep, List.length_append]; have := rep_len one h k; omega
theorem many_0 : ∀ n, n < 14 → ((10 < n → (program ([] ++ rep [99, 108, 97, 115, 115, 32, 65, 32, 123, 32, 125, 32] n ++ [])).2.2 = 2 ∧ 0 < (program ([] ++ rep [99, 108, 97, 115, 115, 32, 65, 32, 123, 32, 125, 32] n ++ [])).2.1 ∧ (program ([] ++ rep [99, 108, 97, 115, 115, 32, 65, 32, 123, 32, 125, 32] n ++ [])).1.length = 0) ∧ (n ≤ 10 → (program ([] ++ rep [99, 108, 97, 115, 115, 32, 65, 32, 123, 32, 125, 32] n ++ [])).2.2 = 0 ∧ (program ([] ++ rep [99, 108, 97, 115, 115, 32, 65, 32, 123, 32, 125, 32] n ++ [])).2.1 = 0 ∧ (program ([] ++ rep [99, 108, 97, 115, 115, 32, 65, 32, 123, 32, 125, 32] n ++ [])).1.length = n)) := by decide +kernel
theorem many_1 : ∀ n, n < 14 → ((6 < n → (program ([99, 108, 97, 115, 115, 32, 65, 32, 123, 32] ++ rep [102, 105, 101, 108, 100, 32, 120, 32, 58, 32, 105, 110, 116, 32, 59, 32] n ++ [125])).2.2 = 2 ∧ 0 < (program ([99, 108, 97, 115, 115, 32, 65, 32, 123, 32] ++ rep [102, 105, 101, 108, 100, 32, 120, 32, 58, 32, 105, 110, 116, 32, 59, 32] n ++ [125])).2.1 ∧ (program ([99, 108, 97, 115, 115, 32, 65, 32, 123, 32] ++ rep [102, 105, 101, 108, 100, 32, 120, 32, 58, 32, 105, 110, 116, 32, 59, 32] n ++ [125])).1.length = 0) ∧ (n ≤ 6 → (program ([99, 108, 97, 115, 115, 32, 65, 32, 123, 32] ++ rep [102, 105, 101, 108, 100, 32, 120, 32, 58, 32, 105, 110, 116, 32, 59, 32] n ++ [125])).2.2 = 0 ∧ (program ([99, 108, 97, 115, 115, 32, 65, 32, 123, 32] ++ rep [102, 105, 101, 108, 100, 32, 120, 32, 58, 32, 105, 110, 116, 32, 59, 32] n ++ [125])).2.1 = 0 ∧ (program ([99, 108, 97, 115, 115, 32, 65, 32, 123, 32] ++ rep [102, 105, 101, 108, 100, 32, 120, 32, 58, 32, 105, 110, 116, 32, 59, 32] n ++ [125])).1.length = 1)) := by decide +kernel
theorem many_2 : ∀ n, n < 14 → ((6 < n → (program ([99, 108, 97, 115, 115, 32, 65, 32, 123, 32] ++ rep [109, 101, 116, 104, 111, 100, 32, 109, 32, 40, 32, 41, 32, 118, 111, 105, 100, 32, 59, 32] n ++ [125])).2.2 = 2 ∧ 0 < (program ([99, 108, 97, 115, 115, 32, 65, 32, 123, 32] ++ rep [109, 101, 116, 104, 111, 100, 32, 109, 32, 40, 32, 41, 32, 118, 111, 105, 100, 32, 59, 32] n ++ [125])).2.1 ∧ (program ([99, 108, 97, 115, 115, 32, 65, 32, 123, 32] ++ rep [109, 101, 116, 104, 111, 100, 32, 109, 32, 40, 32, 41, 32, 118, 111, 105, 100, 32, 59, 32] n ++ [125])).1.length = 0) ∧ (n ≤ 6 → (program ([99, 108, 97, 115, 115, 32, 65, 32, 123, 32] ++ rep [109, 101, 116, 104, 111, 100, 32, 109, 32, 40, 32, 41, 32, 118, 111, 105, 100, 32, 59, 32] n ++ [125])).2.2 = 0 ∧ (program ([99, 108, 97, 115, 115, 32, 65, 32, 123, 32] ++ rep [109, 101, 116, 104, 111, 100, 32, 109, 32, 40, 32, 41, 32, 118, 111, 105, 100, 32, 59, 32] n ++ [125])).2.1 = 0 ∧ (program ([99, 108, 97, 115, 115, 32, 65, 32, 123, 32] ++ rep [109, 101, 116, 104, 111, 100, 32, 109, 32, 40, 32, 41, 32, 118, 111, 105, 100, 32, 59, 32] n ++ [125])).1.length = 1)) := by decide +kernel
theorem many_3 : ∀ n, n < 14 → ((4 < (max n 1) → (program ([99, 108, 97, 115, 115, 32, 65, 32, 123, 32, 109, 101, 116, 104, 111, 100, 32, 109, 32, 40, 32, 105, 110, 116] ++ rep [32, 44, 32, 65, 32, 91, 32, 93] (max n 1 - 1) ++ [32, 41, 32, 118, 111, 105, 100, 32, 59, 32, 125])).2.2 = 2 ∧ 0 < (program ([99, 108, 97, 115, 115, 32, 65, 32, 123, 32, 109, 101, 116, 104, 111, 100, 32, 109, 32, 40, 32, 105, 110, 116] ++ rep [32, 44, 32, 65, 32, 91, 32, 93] (max n 1 - 1) ++ [32, 41, 32, 118, 111, 105, 100, 32, 59, 32, 125])).2.1 ∧ (program ([99, 108, 97, 115, 115, 32, 65, 32, 123, 32, 109, 101, 116, 104, 111, 100, 32, 109, 32, 40, 32, 105, 110, 116] ++ rep [32, 44, 32, 65, 32, 91, 32, 93] (max n 1 - 1) ++ [32, 41, 32, 118, 111, 105, 100, 32, 59, 32, 125])).1.length = 0) ∧ ((max n 1) ≤ 4 → (program ([99, 108, 97, 115, 115, 32, 65, 32, 123, 32, 109, 101, 116, 104, 111, 100, 32, 109, 32, 40, 32, 105, 110, 116] ++ rep [32, 44, 32, 65, 32, 91, 32, 93] (max n 1 - 1) ++ [32, 41, 32, 118, 111, 105, 100, 32, 59, 32, 125])).2.2 = 0 ∧ (program ([99, 108, 97, 115, 115, 32, 65, 32, 123, 32, 109, 101, 116, 104, 111, 100, 32, 109, 32, 40, 32, 105, 110, 116] ++ rep [32, 44, 32, 65, 32, 91, 32, 93] (max n 1 - 1) ++ [32, 41, 32, 118, 111, 105, 100, 32, 59, 32, 125])).2.1 = 0 ∧ (program ([99, 108, 97, 115, 115, 32, 65, 32, 123, 32, 109, 101, 116, 104, 111, 100, 32, 109, 32, 40, 32, 105, 110, 116] ++ rep [32, 44, 32, 65, 32, 91, 32, 93] (max n 1 - 1) ++ [32, 41, 32, 118, 111, 105, 100, 32, 59, 32, 125])).1.length = 1)) := by decide +kernel
theorem many_4 : ∀ n, n < 14 → ((4 < n → (program ([99, 108, 97, 115, 115, 32, 65, 32, 123, 32, 109, 101, 116, 104, 111, 100, 32, 109, 32, 40, 32, 41, 32, 118, 111, 105, 100, 32, 108, 111, 99, 97, 108, 115, 32, 48, 32, 123, 32] ++ rep [99, 97, 116, 99, 104, 32, 69, 32, 48, 32, 49, 32, 50, 32, 59, 32] n ++ [125, 32, 125])).2.2 = 2 ∧ 0 < (program ([99, 108, 97, 115, 115, 32, 65, 32, 123, 32, 109, 101, 116, 104, 111, 100, 32, 109, 32, 40, 32, 41, 32, 118, 111, 105, 100, 32, 108, 111, 99, 97, 108, 115, 32, 48, 32, 123, 32] ++ rep [99, 97, 116, 99, 104, 32, 69, 32, 48, 32, 49, 32, 50, 32, 59, 32] n ++ [125, 32, 125])).2.1 ∧ (program ([99, 108, 97, 115, 115, 32, 65, 32, 123, 32, 109, 101, 116, 104, 111, 100, 32, 109, 32, 40, 32, 41, 32, 118, 111, 105, 100, 32, 108, 111, 99, 97, 108, 115, 32, 48, 32, 123, 32] ++ rep [99, 97, 116, 99, 104, 32, 69, 32, 48, 32, 49, 32, 50, 32, 59, 32] n ++ [125, 32, 125])).1.length = 0) ∧ (n ≤ 4 → (program ([99, 108, 97, 115, 115, 32, 65, 32, 123, 32, 109, 101, 116, 104, 111, 100, 32, 109, 32, 40, 32, 41, 32, 118, 111, 105, 100, 32, 108, 111, 99, 97, 108, 115, 32, 48, 32, 123, 32] ++ rep [99, 97, 116, 99, 104, 32, 69, 32, 48, 32, 49, 32, 50, 32, 59, 32] n ++ [125, 32, 125])).2.2 = 0 ∧ (program ([99, 108, 97, 115, 115, 32, 65, 32, 123, 32, 109, 101, 116, 104, 111, 100, 32, 109, 32, 40, 32, 41, 32, 118, 111, 105, 100, 32, 108, 111, 99, 97, 108, 115, 32, 48, 32, 123, 32] ++ rep [99, 97, 116, 99, 104, 32, 69, 32, 48, 32, 49, 32, 50, 32, 59, 32] n ++ [125, 32, 125])).2.1 = 0 ∧ (program ([99, 108, 97, 115, 115, 32, 65, 32, 123, 32, 109, 101, 116, 104, 111, 100, 32, 109, 32, 40, 32, 41, 32, 118, 111, 105, 100, 32, 108, 111, 99, 97, 108, 115, 32, 48, 32, 123, 32] ++ rep [99, 97, 116, 99, 104, 32, 69, 32, 48, 32, 49, 32, 50, 32, 59, 32] n ++ [125, 32, 125])).1.length = 1)) := by decide +kernel
end Pp
theorem app2_size (a b : ByteArray) (ha : a.size ≤ 1000) (hb : b.size ≤ 100) : (a ++ b).size ≤ 6000 := by rw [ByteArray.size_append]; omega
theorem app2 (a : List UInt8) (c : ByteArray) : ((⟨a.toArray⟩ : ByteArray) ++ c).data.toList = a ++ c.data.toList := by simp
theorem str_app (a b : List UInt8) : (⟨a.toArray⟩ : ByteArray) ++ ⟨b.toArray⟩ = ⟨(a ++ b).toArray⟩ := by
  apply ByteArray.ext
  rw [ByteArray.data_append]
  show a.toArray ++ b.toArray = (a ++ b).toArray
  apply Array.ext'
  simp
theorem rep_step (pre one : List UInt8) (k : Nat) : (⟨(pre ++ Pp.rep one k).toArray⟩ : ByteArray) ++ ⟨one.toArray⟩ = ⟨(pre ++ Pp.rep one (k + 1)).toArray⟩ := by rw [str_app, Pp.rep, List.append_assoc]

set_option maxRecDepth 100000 in
set_option maxHeartbeats 4000000 in
theorem many_w0 (a0 a1 : Int) (w : World) (ht : TabS w) (n : Nat) (hn : n < 14) (em2 : wrap64 ((IntKind.u64.wrap a0).tmod 5) = 0) (ek' : wrap64 ((IntKind.u64.wrap a1).tmod 14) = (n : Int)) :
    Calls Tryd.prog 3 #[.int .i64 a0, .int .i64 a1] w fun e w' => e = .returned (.bool true) ∧ Below w.heap.size w w' := by
  obtain ⟨q1, q2⟩ := Pp.many_0 n hn
  have hwk := hide (fun w' (hb : Below w.heap.size w w') => wakes_any w' (ht.below hb))
  have hPr := hide (fun (S : ByteArray) (hs : S.size ≤ 1000) => Program_str (w.alloc (.cells #[.int .i64 10, .int .i64 6, .int .i64 6, .int .i64 4, .int .i64 4] 3)) (ht.below ((Below.refl _ _).alloc (Nat.le_refl _) _)) (S ++ (⟨#[]⟩ : ByteArray)) (app2_size _ _ hs (by decide)))
  have hcv := fun (w : World) (S : ByteArray) => Lib.run_convert_string_bytes (P := Tryd.prog) w 9 30 5 (S ++ (⟨#[]⟩ : ByteArray)) (by kernel_rfl : Tryd.prog.underlying 9 = some .string) (by kernel_rfl) (by kernel_rfl)
  have hn2 : (n : Int) < 14 := by omega
  have Q := hide (And.intro q1 q2)
  clear q1 q2 ht
  go_enter Tryd.func3, Tryd.ntmps3
  go_wp2_with fail
  go_loop [6, 10] (fun sv i => ∃ k : Nat, k ≤ n ∧ i = .int .i64 k ∧ sv = .string ⟨([] ++ Pp.rep [99, 108, 97, 115, 115, 32, 65, 32, 123, 32, 125, 32] k).toArray⟩) (fun _ i => n - (intOf i).toNat)
  case atStart => exact ⟨0, by omega, rfl, by simp [Pp.rep]⟩
  case round =>
    obtain ⟨k, hk, rfl, rfl⟩ := hrel
    obtain ⟨S, hS⟩ : ∃ S : ByteArray, S = ⟨([] ++ Pp.rep [99, 108, 97, 115, 115, 32, 65, 32, 123, 32, 125, 32] k).toArray⟩ := ⟨_, rfl⟩
    have hSz : S.size ≤ 1000 := by rw [hS]; have := Pp.rep_len [99, 108, 97, 115, 115, 32, 65, 32, 123, 32, 125, 32] (by decide) k; simp [ByteArray.size]; omega
    rw [← hS]
    have HS := hide hS
    clear hS
    by_cases hlt : k < n
    · go_wp2_with fail
      go_round
      case rel => exact ⟨k + 1, by omega, by go_num, by rw [HS.out]; exact congrArg Value.string (rep_step [] [99, 108, 97, 115, 115, 32, 65, 32, 123, 32, 125, 32] k)⟩
      case measure => simp [intOf]; omega
    · have e9 : n = k := by omega
      subst e9
      have hP := hPr.out S hSz
      rw [show (w.alloc (.cells #[.int .i64 10, .int .i64 6, .int .i64 6, .int .i64 4, .int .i64 4] 3)).heap.size = w.heap.size + 1 from by simp, ByteArray.size_append, show (⟨#[]⟩ : ByteArray).size = 0 from rfl] at hP
      have hXl : (S ++ (⟨#[]⟩ : ByteArray)).data.toList = ([] ++ Pp.rep [99, 108, 97, 115, 115, 32, 65, 32, 123, 32, 125, 32] n ++ []) := by rw [HS.out]; exact app2 _ _
      rw [hXl] at hP
      have HP := hide hP
      clear hP hXl HS hPr
      by_cases hmo : 10 < n
      · obtain ⟨r1, r2, r3⟩ := Q.out.1 hmo
        rw [r1, r3] at HP
        obtain ⟨pl, hpl⟩ : ∃ pl, pl = (Pp.program ([] ++ Pp.rep [99, 108, 97, 115, 115, 32, 65, 32, 123, 32, 125, 32] n ++ [])).2.1 := ⟨_, rfl⟩
        rw [← hpl] at HP r2
        have hr2 : (0 : Int) < (pl : Int) := by omega
        have hmo2 : (10 : Int) < (n : Int) := by omega
        clear Q hpl r1 r3
        go_wp2_with fail
        refine HP.out.mono ?_
        rintro e w3 ⟨av, cv, rfl, hb3⟩
        have hB3 : Below w.heap.size w w3 := ((Below.refl _ _).alloc (Nat.le_refl _) _).trans (hb3.mono (by simp))
        clear hb3
        go_wp2_with fail
        refine (hwk.out _ (hB3.alloc hB3.size _)).mono ?_
        rintro e w4 ⟨rfl, hb4⟩
        go_wp2_with fail
        go_ret
        exact ⟨rfl, (hB3.alloc hB3.size _).trans (hb4.mono (by have := hB3.size; simp; omega))⟩
      · obtain ⟨r1, r2, r3⟩ := Q.out.2 (by omega)
        rw [r1, r2, r3] at HP
        have hmo2 : ¬ (10 : Int) < (n : Int) := by omega
        clear Q r1 r2 r3
        go_wp2_with fail
        refine HP.out.mono ?_
        rintro e w3 ⟨av, cv, rfl, hb3⟩
        have hB3 : Below w.heap.size w w3 := ((Below.refl _ _).alloc (Nat.le_refl _) _).trans (hb3.mono (by simp))
        clear hb3
        go_wp2_with fail
        refine (hwk.out _ (hB3.alloc hB3.size _)).mono ?_
        rintro e w4 ⟨rfl, hb4⟩
        go_wp2_with fail
        go_ret
        exact ⟨rfl, (hB3.alloc hB3.size _).trans (hb4.mono (by have := hB3.size; simp; omega))⟩

set_option maxRecDepth 100000 in
set_option maxHeartbeats 4000000 in
theorem many_w1 (a0 a1 : Int) (w : World) (ht : TabS w) (n : Nat) (hn : n < 14) (em2 : wrap64 ((IntKind.u64.wrap a0).tmod 5) = 1) (ek' : wrap64 ((IntKind.u64.wrap a1).tmod 14) = (n : Int)) :
    Calls Tryd.prog 3 #[.int .i64 a0, .int .i64 a1] w fun e w' => e = .returned (.bool true) ∧ Below w.heap.size w w' := by
  obtain ⟨q1, q2⟩ := Pp.many_1 n hn
  have hwk := hide (fun w' (hb : Below w.heap.size w w') => wakes_any w' (ht.below hb))
  have hPr := hide (fun (S : ByteArray) (hs : S.size ≤ 1000) => Program_str (w.alloc (.cells #[.int .i64 10, .int .i64 6, .int .i64 6, .int .i64 4, .int .i64 4] 3)) (ht.below ((Below.refl _ _).alloc (Nat.le_refl _) _)) (S ++ (⟨#[125]⟩ : ByteArray)) (app2_size _ _ hs (by decide)))
  have hcv := fun (w : World) (S : ByteArray) => Lib.run_convert_string_bytes (P := Tryd.prog) w 9 30 5 (S ++ (⟨#[125]⟩ : ByteArray)) (by kernel_rfl : Tryd.prog.underlying 9 = some .string) (by kernel_rfl) (by kernel_rfl)
  have hn2 : (n : Int) < 14 := by omega
  have Q := hide (And.intro q1 q2)
  clear q1 q2 ht
  go_enter Tryd.func3, Tryd.ntmps3
  go_wp2_with fail
  go_loop [6, 10] (fun sv i => ∃ k : Nat, k ≤ n ∧ i = .int .i64 k ∧ sv = .string ⟨([99, 108, 97, 115, 115, 32, 65, 32, 123, 32] ++ Pp.rep [102, 105, 101, 108, 100, 32, 120, 32, 58, 32, 105, 110, 116, 32, 59, 32] k).toArray⟩) (fun _ i => n - (intOf i).toNat)
  case atStart => exact ⟨0, by omega, rfl, by simp [Pp.rep]⟩
  case round =>
    obtain ⟨k, hk, rfl, rfl⟩ := hrel
    obtain ⟨S, hS⟩ : ∃ S : ByteArray, S = ⟨([99, 108, 97, 115, 115, 32, 65, 32, 123, 32] ++ Pp.rep [102, 105, 101, 108, 100, 32, 120, 32, 58, 32, 105, 110, 116, 32, 59, 32] k).toArray⟩ := ⟨_, rfl⟩
    have hSz : S.size ≤ 1000 := by rw [hS]; have := Pp.rep_len [102, 105, 101, 108, 100, 32, 120, 32, 58, 32, 105, 110, 116, 32, 59, 32] (by decide) k; simp [ByteArray.size]; omega
    rw [← hS]
    have HS := hide hS
    clear hS
    by_cases hlt : k < n
    · go_wp2_with fail
      go_round
      case rel => exact ⟨k + 1, by omega, by go_num, by rw [HS.out]; exact congrArg Value.string (rep_step [99, 108, 97, 115, 115, 32, 65, 32, 123, 32] [102, 105, 101, 108, 100, 32, 120, 32, 58, 32, 105, 110, 116, 32, 59, 32] k)⟩
      case measure => simp [intOf]; omega
    · have e9 : n = k := by omega
      subst e9
      have hP := hPr.out S hSz
      rw [show (w.alloc (.cells #[.int .i64 10, .int .i64 6, .int .i64 6, .int .i64 4, .int .i64 4] 3)).heap.size = w.heap.size + 1 from by simp, ByteArray.size_append, show (⟨#[125]⟩ : ByteArray).size = 1 from rfl] at hP
      have hXl : (S ++ (⟨#[125]⟩ : ByteArray)).data.toList = ([99, 108, 97, 115, 115, 32, 65, 32, 123, 32] ++ Pp.rep [102, 105, 101, 108, 100, 32, 120, 32, 58, 32, 105, 110, 116, 32, 59, 32] n ++ [125]) := by rw [HS.out]; exact app2 _ _
      rw [hXl] at hP
      have HP := hide hP
      clear hP hXl HS hPr
      by_cases hmo : 6 < n
      · obtain ⟨r1, r2, r3⟩ := Q.out.1 hmo
        rw [r1, r3] at HP
        obtain ⟨pl, hpl⟩ : ∃ pl, pl = (Pp.program ([99, 108, 97, 115, 115, 32, 65, 32, 123, 32] ++ Pp.rep [102, 105, 101, 108, 100, 32, 120, 32, 58, 32, 105, 110, 116, 32, 59, 32] n ++ [125])).2.1 := ⟨_, rfl⟩
        rw [← hpl] at HP r2
        have hr2 : (0 : Int) < (pl : Int) := by omega
        have hmo2 : (6 : Int) < (n : Int) := by omega
        clear Q hpl r1 r3
        go_wp2_with fail
        refine HP.out.mono ?_
        rintro e w3 ⟨av, cv, rfl, hb3⟩
        have hB3 : Below w.heap.size w w3 := ((Below.refl _ _).alloc (Nat.le_refl _) _).trans (hb3.mono (by simp))
        clear hb3
        go_wp2_with fail
        refine (hwk.out _ (hB3.alloc hB3.size _)).mono ?_
        rintro e w4 ⟨rfl, hb4⟩
        go_wp2_with fail
        go_ret
        exact ⟨rfl, (hB3.alloc hB3.size _).trans (hb4.mono (by have := hB3.size; simp; omega))⟩
      · obtain ⟨r1, r2, r3⟩ := Q.out.2 (by omega)
        rw [r1, r2, r3] at HP
        have hmo2 : ¬ (6 : Int) < (n : Int) := by omega
        clear Q r1 r2 r3
        go_wp2_with fail
        refine HP.out.mono ?_
        rintro e w3 ⟨av, cv, rfl, hb3⟩
        have hB3 : Below w.heap.size w w3 := ((Below.refl _ _).alloc (Nat.le_refl _) _).trans (hb3.mono (by simp))
        clear hb3
        go_wp2_with fail
        refine (hwk.out _ (hB3.alloc hB3.size _)).mono ?_
        rintro e w4 ⟨rfl, hb4⟩
        go_wp2_with fail
        go_ret
        exact ⟨rfl, (hB3.alloc hB3.size _).trans (hb4.mono (by have := hB3.size; simp; omega))⟩

set_option maxRecDepth 100000 in
set_option maxHeartbeats 4000000 in
theorem many_w2 (a0 a1 : Int) (w : World) (ht : TabS w) (n : Nat) (hn : n < 14) (em2 : wrap64 ((IntKind.u64.wrap a0).tmod 5) = 2) (ek' : wrap64 ((IntKind.u64.wrap a1).tmod 14) = (n : Int)) :
    Calls Tryd.prog 3 #[.int .i64 a0, .int .i64 a1] w fun e w' => e = .returned (.bool true) ∧ Below w.heap.size w w' := by
  obtain ⟨q1, q2⟩ := Pp.many_2 n hn
  have hwk := hide (fun w' (hb : Below w.heap.size w w') => wakes_any w' (ht.below hb))
  have hPr := hide (fun (S : ByteArray) (hs : S.size ≤ 1000) => Program_str (w.alloc (.cells #[.int .i64 10, .int .i64 6, .int .i64 6, .int .i64 4, .int .i64 4] 3)) (ht.below ((Below.refl _ _).alloc (Nat.le_refl _) _)) (S ++ (⟨#[125]⟩ : ByteArray)) (app2_size _ _ hs (by decide)))
  have hcv := fun (w : World) (S : ByteArray) => Lib.run_convert_string_bytes (P := Tryd.prog) w 9 30 5 (S ++ (⟨#[125]⟩ : ByteArray)) (by kernel_rfl : Tryd.prog.underlying 9 = some .string) (by kernel_rfl) (by kernel_rfl)
  have hn2 : (n : Int) < 14 := by omega
  have Q := hide (And.intro q1 q2)
  clear q1 q2 ht
  go_enter Tryd.func3, Tryd.ntmps3
  go_wp2_with fail
  go_loop [6, 10] (fun sv i => ∃ k : Nat, k ≤ n ∧ i = .int .i64 k ∧ sv = .string ⟨([99, 108, 97, 115, 115, 32, 65, 32, 123, 32] ++ Pp.rep [109, 101, 116, 104, 111, 100, 32, 109, 32, 40, 32, 41, 32, 118, 111, 105, 100, 32, 59, 32] k).toArray⟩) (fun _ i => n - (intOf i).toNat)
  case atStart => exact ⟨0, by omega, rfl, by simp [Pp.rep]⟩
  case round =>
    obtain ⟨k, hk, rfl, rfl⟩ := hrel
    obtain ⟨S, hS⟩ : ∃ S : ByteArray, S = ⟨([99, 108, 97, 115, 115, 32, 65, 32, 123, 32] ++ Pp.rep [109, 101, 116, 104, 111, 100, 32, 109, 32, 40, 32, 41, 32, 118, 111, 105, 100, 32, 59, 32] k).toArray⟩ := ⟨_, rfl⟩
    have hSz : S.size ≤ 1000 := by rw [hS]; have := Pp.rep_len [109, 101, 116, 104, 111, 100, 32, 109, 32, 40, 32, 41, 32, 118, 111, 105, 100, 32, 59, 32] (by decide) k; simp [ByteArray.size]; omega
    rw [← hS]
    have HS := hide hS
    clear hS
    by_cases hlt : k < n
    · go_wp2_with fail
      go_round
      case rel => exact ⟨k + 1, by omega, by go_num, by rw [HS.out]; exact congrArg Value.string (rep_step [99, 108, 97, 115, 115, 32, 65, 32, 123, 32] [109, 101, 116, 104, 111, 100, 32, 109, 32, 40, 32, 41, 32, 118, 111, 105, 100, 32, 59, 32] k)⟩
      case measure => simp [intOf]; omega
    · have e9 : n = k := by omega
      subst e9
      have hP := hPr.out S hSz
      rw [show (w.alloc (.cells #[.int .i64 10, .int .i64 6, .int .i64 6, .int .i64 4, .int .i64 4] 3)).heap.size = w.heap.size + 1 from by simp, ByteArray.size_append, show (⟨#[125]⟩ : ByteArray).size = 1 from rfl] at hP
      have hXl : (S ++ (⟨#[125]⟩ : ByteArray)).data.toList = ([99, 108, 97, 115, 115, 32, 65, 32, 123, 32] ++ Pp.rep [109, 101, 116, 104, 111, 100, 32, 109, 32, 40, 32, 41, 32, 118, 111, 105, 100, 32, 59, 32] n ++ [125]) := by rw [HS.out]; exact app2 _ _
      rw [hXl] at hP
      have HP := hide hP
      clear hP hXl HS hPr
      by_cases hmo : 6 < n
      · obtain ⟨r1, r2, r3⟩ := Q.out.1 hmo
        rw [r1, r3] at HP
        obtain ⟨pl, hpl⟩ : ∃ pl, pl = (Pp.program ([99, 108, 97, 115, 115, 32, 65, 32, 123, 32] ++ Pp.rep [109, 101, 116, 104, 111, 100, 32, 109, 32, 40, 32, 41, 32, 118, 111, 105, 100, 32, 59, 32] n ++ [125])).2.1 := ⟨_, rfl⟩
        rw [← hpl] at HP r2
        have hr2 : (0 : Int) < (pl : Int) := by omega
        have hmo2 : (6 : Int) < (n : Int) := by omega
        clear Q hpl r1 r3
        go_wp2_with fail
        refine HP.out.mono ?_
        rintro e w3 ⟨av, cv, rfl, hb3⟩
        have hB3 : Below w.heap.size w w3 := ((Below.refl _ _).alloc (Nat.le_refl _) _).trans (hb3.mono (by simp))
        clear hb3
        go_wp2_with fail
        refine (hwk.out _ (hB3.alloc hB3.size _)).mono ?_
        rintro e w4 ⟨rfl, hb4⟩
        go_wp2_with fail
        go_ret
        exact ⟨rfl, (hB3.alloc hB3.size _).trans (hb4.mono (by have := hB3.size; simp; omega))⟩
      · obtain ⟨r1, r2, r3⟩ := Q.out.2 (by omega)
        rw [r1, r2, r3] at HP
        have hmo2 : ¬ (6 : Int) < (n : Int) := by omega
        clear Q r1 r2 r3
        go_wp2_with fail
        refine HP.out.mono ?_
        rintro e w3 ⟨av, cv, rfl, hb3⟩
        have hB3 : Below w.heap.size w w3 := ((Below.refl _ _).alloc (Nat.le_refl _) _).trans (hb3.mono (by simp))
        clear hb3
        go_wp2_with fail
        refine (hwk.out _ (hB3.alloc hB3.size _)).mono ?_
        rintro e w4 ⟨rfl, hb4⟩
        go_wp2_with fail
        go_ret
        exact ⟨rfl, (hB3.alloc hB3.size _).trans (hb4.mono (by have := hB3.size; simp; omega))⟩

set_option maxRecDepth 100000 in
set_option maxHeartbeats 4000000 in
theorem many_w3 (a0 a1 : Int) (w : World) (ht : TabS w) (n : Nat) (hn : n < 14) (em2 : wrap64 ((IntKind.u64.wrap a0).tmod 5) = 3) (ek' : wrap64 ((IntKind.u64.wrap a1).tmod 14) = (n : Int)) :
    Calls Tryd.prog 3 #[.int .i64 a0, .int .i64 a1] w fun e w' => e = .returned (.bool true) ∧ Below w.heap.size w w' := by
  obtain ⟨N, hN⟩ : ∃ N, N = max n 1 := ⟨_, rfl⟩
  obtain ⟨K, hK⟩ : ∃ K, K = max n 1 - 1 := ⟨_, rfl⟩
  have hNK : N = K + 1 := by omega
  have hmax : (if (n : Int) < 1 then (1 : Int) else n) = N := by split <;> omega
  obtain ⟨q1, q2⟩ := Pp.many_3 n hn
  have hwk := hide (fun w' (hb : Below w.heap.size w w') => wakes_any w' (ht.below hb))
  have hPr := hide (fun (S : ByteArray) (hs : S.size ≤ 1000) => Program_str (w.alloc (.cells #[.int .i64 10, .int .i64 6, .int .i64 6, .int .i64 4, .int .i64 4] 3)) (ht.below ((Below.refl _ _).alloc (Nat.le_refl _) _)) (S ++ (⟨#[32, 41, 32, 118, 111, 105, 100, 32, 59, 32, 125]⟩ : ByteArray)) (app2_size _ _ hs (by decide)))
  have hcv := fun (w : World) (S : ByteArray) => Lib.run_convert_string_bytes (P := Tryd.prog) w 9 30 5 (S ++ (⟨#[32, 41, 32, 118, 111, 105, 100, 32, 59, 32, 125]⟩ : ByteArray)) (by kernel_rfl : Tryd.prog.underlying 9 = some .string) (by kernel_rfl) (by kernel_rfl)
  have hn2 : (n : Int) < 14 := by omega
  have Q := hide (And.intro q1 q2)
  clear q1 q2 ht
  go_enter Tryd.func3, Tryd.ntmps3
  go_wp2_with fail
  go_loop [6, 10] (fun sv i => ∃ k : Nat, k ≤ K ∧ i = .int .i64 k ∧ sv = .string ⟨([99, 108, 97, 115, 115, 32, 65, 32, 123, 32, 109, 101, 116, 104, 111, 100, 32, 109, 32, 40, 32, 105, 110, 116] ++ Pp.rep [32, 44, 32, 65, 32, 91, 32, 93] k).toArray⟩) (fun _ i => K - (intOf i).toNat)
  case atStart => exact ⟨0, by omega, rfl, by simp [Pp.rep]⟩
  case round =>
    obtain ⟨k, hk, rfl, rfl⟩ := hrel
    obtain ⟨S, hS⟩ : ∃ S : ByteArray, S = ⟨([99, 108, 97, 115, 115, 32, 65, 32, 123, 32, 109, 101, 116, 104, 111, 100, 32, 109, 32, 40, 32, 105, 110, 116] ++ Pp.rep [32, 44, 32, 65, 32, 91, 32, 93] k).toArray⟩ := ⟨_, rfl⟩
    have hSz : S.size ≤ 1000 := by rw [hS]; have := Pp.rep_len [32, 44, 32, 65, 32, 91, 32, 93] (by decide) k; simp [ByteArray.size]; omega
    rw [← hS]
    have HS := hide hS
    clear hS
    by_cases hlt : k < K
    · go_wp2_with fail
      go_round
      case rel => exact ⟨k + 1, by omega, by go_num, by rw [HS.out]; exact congrArg Value.string (rep_step [99, 108, 97, 115, 115, 32, 65, 32, 123, 32, 109, 101, 116, 104, 111, 100, 32, 109, 32, 40, 32, 105, 110, 116] [32, 44, 32, 65, 32, 91, 32, 93] k)⟩
      case measure => simp [intOf]; omega
    · have e9 : K = k := by omega
      subst e9
      have hP := hPr.out S hSz
      rw [show (w.alloc (.cells #[.int .i64 10, .int .i64 6, .int .i64 6, .int .i64 4, .int .i64 4] 3)).heap.size = w.heap.size + 1 from by simp, ByteArray.size_append, show (⟨#[32, 41, 32, 118, 111, 105, 100, 32, 59, 32, 125]⟩ : ByteArray).size = 11 from rfl] at hP
      have hXl : (S ++ (⟨#[32, 41, 32, 118, 111, 105, 100, 32, 59, 32, 125]⟩ : ByteArray)).data.toList = ([99, 108, 97, 115, 115, 32, 65, 32, 123, 32, 109, 101, 116, 104, 111, 100, 32, 109, 32, 40, 32, 105, 110, 116] ++ Pp.rep [32, 44, 32, 65, 32, 91, 32, 93] (max n 1 - 1) ++ [32, 41, 32, 118, 111, 105, 100, 32, 59, 32, 125]) := by rw [HS.out, hK]; exact app2 _ _
      rw [hXl] at hP
      have HP := hide hP
      clear hP hXl HS hPr
      by_cases hmo : 4 < N
      · obtain ⟨r1, r2, r3⟩ := Q.out.1 (by omega)
        rw [r1, r3] at HP
        obtain ⟨pl, hpl⟩ : ∃ pl, pl = (Pp.program ([99, 108, 97, 115, 115, 32, 65, 32, 123, 32, 109, 101, 116, 104, 111, 100, 32, 109, 32, 40, 32, 105, 110, 116] ++ Pp.rep [32, 44, 32, 65, 32, 91, 32, 93] (max n 1 - 1) ++ [32, 41, 32, 118, 111, 105, 100, 32, 59, 32, 125])).2.1 := ⟨_, rfl⟩
        rw [← hpl] at HP r2
        have hr2 : (0 : Int) < (pl : Int) := by omega
        have hmo2 : (4 : Int) < (N : Int) := by omega
        clear Q hpl r1 r3
        go_wp2_with fail
        refine HP.out.mono ?_
        rintro e w3 ⟨av, cv, rfl, hb3⟩
        have hB3 : Below w.heap.size w w3 := ((Below.refl _ _).alloc (Nat.le_refl _) _).trans (hb3.mono (by simp))
        clear hb3
        go_wp2_with fail
        refine (hwk.out _ (hB3.alloc hB3.size _)).mono ?_
        rintro e w4 ⟨rfl, hb4⟩
        go_wp2_with fail
        go_ret
        exact ⟨rfl, (hB3.alloc hB3.size _).trans (hb4.mono (by have := hB3.size; simp; omega))⟩
      · obtain ⟨r1, r2, r3⟩ := Q.out.2 (by omega)
        rw [r1, r2, r3] at HP
        have hmo2 : ¬ (4 : Int) < (N : Int) := by omega
        clear Q r1 r2 r3
        go_wp2_with fail
        refine HP.out.mono ?_
        rintro e w3 ⟨av, cv, rfl, hb3⟩
        have hB3 : Below w.heap.size w w3 := ((Below.refl _ _).alloc (Nat.le_refl _) _).trans (hb3.mono (by simp))
        clear hb3
        go_wp2_with fail
        refine (hwk.out _ (hB3.alloc hB3.size _)).mono ?_
        rintro e w4 ⟨rfl, hb4⟩
        go_wp2_with fail
        go_ret
        exact ⟨rfl, (hB3.alloc hB3.size _).trans (hb4.mono (by have := hB3.size; simp; omega))⟩

set_option maxRecDepth 100000 in
set_option maxHeartbeats 4000000 in
theorem many_w4 (a0 a1 : Int) (w : World) (ht : TabS w) (n : Nat) (hn : n < 14) (em2 : wrap64 ((IntKind.u64.wrap a0).tmod 5) = 4) (ek' : wrap64 ((IntKind.u64.wrap a1).tmod 14) = (n : Int)) :
    Calls Tryd.prog 3 #[.int .i64 a0, .int .i64 a1] w fun e w' => e = .returned (.bool true) ∧ Below w.heap.size w w' := by
  obtain ⟨q1, q2⟩ := Pp.many_4 n hn
  have hwk := hide (fun w' (hb : Below w.heap.size w w') => wakes_any w' (ht.below hb))
  have hPr := hide (fun (S : ByteArray) (hs : S.size ≤ 1000) => Program_str (w.alloc (.cells #[.int .i64 10, .int .i64 6, .int .i64 6, .int .i64 4, .int .i64 4] 3)) (ht.below ((Below.refl _ _).alloc (Nat.le_refl _) _)) (S ++ (⟨#[125, 32, 125]⟩ : ByteArray)) (app2_size _ _ hs (by decide)))
  have hcv := fun (w : World) (S : ByteArray) => Lib.run_convert_string_bytes (P := Tryd.prog) w 9 30 5 (S ++ (⟨#[125, 32, 125]⟩ : ByteArray)) (by kernel_rfl : Tryd.prog.underlying 9 = some .string) (by kernel_rfl) (by kernel_rfl)
  have hn2 : (n : Int) < 14 := by omega
  have Q := hide (And.intro q1 q2)
  clear q1 q2 ht
  go_enter Tryd.func3, Tryd.ntmps3
  go_wp2_with fail
  go_loop [6, 10] (fun sv i => ∃ k : Nat, k ≤ n ∧ i = .int .i64 k ∧ sv = .string ⟨([99, 108, 97, 115, 115, 32, 65, 32, 123, 32, 109, 101, 116, 104, 111, 100, 32, 109, 32, 40, 32, 41, 32, 118, 111, 105, 100, 32, 108, 111, 99, 97, 108, 115, 32, 48, 32, 123, 32] ++ Pp.rep [99, 97, 116, 99, 104, 32, 69, 32, 48, 32, 49, 32, 50, 32, 59, 32] k).toArray⟩) (fun _ i => n - (intOf i).toNat)
  case atStart => exact ⟨0, by omega, rfl, by simp [Pp.rep]⟩
  case round =>
    obtain ⟨k, hk, rfl, rfl⟩ := hrel
    obtain ⟨S, hS⟩ : ∃ S : ByteArray, S = ⟨([99, 108, 97, 115, 115, 32, 65, 32, 123, 32, 109, 101, 116, 104, 111, 100, 32, 109, 32, 40, 32, 41, 32, 118, 111, 105, 100, 32, 108, 111, 99, 97, 108, 115, 32, 48, 32, 123, 32] ++ Pp.rep [99, 97, 116, 99, 104, 32, 69, 32, 48, 32, 49, 32, 50, 32, 59, 32] k).toArray⟩ := ⟨_, rfl⟩
    have hSz : S.size ≤ 1000 := by rw [hS]; have := Pp.rep_len [99, 97, 116, 99, 104, 32, 69, 32, 48, 32, 49, 32, 50, 32, 59, 32] (by decide) k; simp [ByteArray.size]; omega
    rw [← hS]
    have HS := hide hS
    clear hS
    by_cases hlt : k < n
    · go_wp2_with fail
      go_round
      case rel => exact ⟨k + 1, by omega, by go_num, by rw [HS.out]; exact congrArg Value.string (rep_step [99, 108, 97, 115, 115, 32, 65, 32, 123, 32, 109, 101, 116, 104, 111, 100, 32, 109, 32, 40, 32, 41, 32, 118, 111, 105, 100, 32, 108, 111, 99, 97, 108, 115, 32, 48, 32, 123, 32] [99, 97, 116, 99, 104, 32, 69, 32, 48, 32, 49, 32, 50, 32, 59, 32] k)⟩
      case measure => simp [intOf]; omega
    · have e9 : n = k := by omega
      subst e9
      have hP := hPr.out S hSz
      rw [show (w.alloc (.cells #[.int .i64 10, .int .i64 6, .int .i64 6, .int .i64 4, .int .i64 4] 3)).heap.size = w.heap.size + 1 from by simp, ByteArray.size_append, show (⟨#[125, 32, 125]⟩ : ByteArray).size = 3 from rfl] at hP
      have hXl : (S ++ (⟨#[125, 32, 125]⟩ : ByteArray)).data.toList = ([99, 108, 97, 115, 115, 32, 65, 32, 123, 32, 109, 101, 116, 104, 111, 100, 32, 109, 32, 40, 32, 41, 32, 118, 111, 105, 100, 32, 108, 111, 99, 97, 108, 115, 32, 48, 32, 123, 32] ++ Pp.rep [99, 97, 116, 99, 104, 32, 69, 32, 48, 32, 49, 32, 50, 32, 59, 32] n ++ [125, 32, 125]) := by rw [HS.out]; exact app2 _ _
      rw [hXl] at hP
      have HP := hide hP
      clear hP hXl HS hPr
      by_cases hmo : 4 < n
      · obtain ⟨r1, r2, r3⟩ := Q.out.1 hmo
        rw [r1, r3] at HP
        obtain ⟨pl, hpl⟩ : ∃ pl, pl = (Pp.program ([99, 108, 97, 115, 115, 32, 65, 32, 123, 32, 109, 101, 116, 104, 111, 100, 32, 109, 32, 40, 32, 41, 32, 118, 111, 105, 100, 32, 108, 111, 99, 97, 108, 115, 32, 48, 32, 123, 32] ++ Pp.rep [99, 97, 116, 99, 104, 32, 69, 32, 48, 32, 49, 32, 50, 32, 59, 32] n ++ [125, 32, 125])).2.1 := ⟨_, rfl⟩
        rw [← hpl] at HP r2
        have hr2 : (0 : Int) < (pl : Int) := by omega
        have hmo2 : (4 : Int) < (n : Int) := by omega
        clear Q hpl r1 r3
        go_wp2_with fail
        refine HP.out.mono ?_
        rintro e w3 ⟨av, cv, rfl, hb3⟩
        have hB3 : Below w.heap.size w w3 := ((Below.refl _ _).alloc (Nat.le_refl _) _).trans (hb3.mono (by simp))
        clear hb3
        go_wp2_with fail
        refine (hwk.out _ (hB3.alloc hB3.size _)).mono ?_
        rintro e w4 ⟨rfl, hb4⟩
        go_wp2_with fail
        go_ret
        exact ⟨rfl, (hB3.alloc hB3.size _).trans (hb4.mono (by have := hB3.size; simp; omega))⟩
      · obtain ⟨r1, r2, r3⟩ := Q.out.2 (by omega)
        rw [r1, r2, r3] at HP
        have hmo2 : ¬ (4 : Int) < (n : Int) := by omega
        clear Q r1 r2 r3
        go_wp2_with fail
        refine HP.out.mono ?_
        rintro e w3 ⟨av, cv, rfl, hb3⟩
        have hB3 : Below w.heap.size w w3 := ((Below.refl _ _).alloc (Nat.le_refl _) _).trans (hb3.mono (by simp))
        clear hb3
        go_wp2_with fail
        refine (hwk.out _ (hB3.alloc hB3.size _)).mono ?_
        rintro e w4 ⟨rfl, hb4⟩
        go_wp2_with fail
        go_ret
        exact ⟨rfl, (hB3.alloc hB3.size _).trans (hb4.mono (by have := hB3.size; simp; omega))⟩

theorem many_walk (a0 a1 : Int) (w : World) (ht : TabS w) :
    Calls Tryd.prog 3 #[.int .i64 a0, .int .i64 a1] w fun e w' => e = .returned (.bool true) ∧ Below w.heap.size w w' := by
  obtain ⟨m, hm, em⟩ := mod_range a0 5 (by decide) (by decide)
  obtain ⟨n, hn, en⟩ := mod_range a1 14 (by decide) (by decide)
  obtain rfl | rfl | rfl | rfl | rfl : m = 0 ∨ m = 1 ∨ m = 2 ∨ m = 3 ∨ m = 4 := by omega
  · exact many_w0 a0 a1 w ht n hn em en
  · exact many_w1 a0 a1 w ht n hn em en
  · exact many_w2 a0 a1 w ht n hn em en
  · exact many_w3 a0 a1 w ht n hn em en
  · exact many_w4 a0 a1 w ht n hn em en
end Go.Proofs.YtpngpkbnhepleabDoor

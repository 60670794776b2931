/- What token answers. -/
import Derived.Test.YtpngpkbnhepleaaDoorNums
namespace Go.Proofs.YtpngpkbnhepleaaDoor
open Go.RowKit
set_option linter.unusedVariables false
set_option linter.unusedSimpArgs false

set_option maxRecDepth 100000 in
set_option maxHeartbeats 1000000 in
theorem token_name (s : ByteArray) (hs : s.size ≤ maxLen) (h : Lx.nameL s.data.toList = true) (w : World) :
    Calls Tryd.prog 39 #[.string s] w fun e w' => e = .returned (.tuple #[.agg #[.int .i64 1, .string s, .int .i64 0, .int .i64 0], .bool true]) ∧ Below w.heap.size w w' := by
  go_enter Tryd.func39, Tryd.ntmps39
  go_wp2_with (go_at_call 23; refine (Name_any _ hs _).mono ?_; rintro e w' ⟨rfl, rfl⟩)
  exact bodyPost_ret (v := .tuple #[.agg #[.int .i64 1, .string s, .int .i64 0, .int .i64 0], .bool true]) (by simp [results, Tryd.results39, go_sem]) rfl ⟨rfl, (Below.refl _ _).alloc (Nat.le_refl _) _⟩

set_option maxRecDepth 100000 in
set_option maxHeartbeats 1000000 in
theorem token_num (s : ByteArray) (hs : s.size ≤ maxLen) (h : Lx.nameL s.data.toList = false) (n : Int) (hn : Lx.numL s.data.toList = some n) (w : World) :
    Calls Tryd.prog 39 #[.string s] w fun e w' => e = .returned (.tuple #[.agg #[.int .i64 2, .string ⟨#[]⟩, .int .i64 n, .int .i64 0], .bool true]) ∧ Below w.heap.size w w' := by
  go_enter Tryd.func39, Tryd.ntmps39
  go_wp2_with (first | (go_at_call 23; refine (Name_any _ hs _).mono ?_; rintro e w' ⟨rfl, rfl⟩) | (go_at_call 67; refine (Num_any _ hs _).mono ?_; rintro e w' ⟨rfl, rfl⟩))
  exact bodyPost_ret (v := .tuple #[.agg #[.int .i64 2, .string ⟨#[]⟩, .int .i64 n, .int .i64 0], .bool true]) (by simp [results, Tryd.results39, go_sem]) rfl ⟨rfl, (Below.refl _ _).alloc (Nat.le_refl _) _⟩

set_option maxRecDepth 100000 in
set_option maxHeartbeats 1000000 in
theorem token_sign (s : ByteArray) (hs : s.size ≤ maxLen) (h : Lx.nameL s.data.toList = false) (hn : Lx.numL s.data.toList = none) (hg : Lx.signL s.data.toList = true) (w : World) :
    Calls Tryd.prog 39 #[.string s] w fun e w' => e = .returned (.tuple #[.agg #[.int .i64 3, .string s, .int .i64 0, .int .i64 0], .bool true]) ∧ Below w.heap.size w w' := by
  go_enter Tryd.func39, Tryd.ntmps39
  go_wp2_with (first | (go_at_call 23; refine (Name_any _ hs _).mono ?_; rintro e w' ⟨rfl, rfl⟩) | (go_at_call 67; refine (Num_any _ hs _).mono ?_; rintro e w' ⟨rfl, rfl⟩) | (go_at_call 68; refine (sign_any _ hs _).mono ?_; rintro e w' ⟨rfl, rfl⟩))
  exact bodyPost_ret (v := .tuple #[.agg #[.int .i64 3, .string s, .int .i64 0, .int .i64 0], .bool true]) (by simp [results, Tryd.results39, go_sem]) rfl ⟨rfl, (Below.refl _ _).alloc (Nat.le_refl _) _⟩

set_option maxRecDepth 100000 in
set_option maxHeartbeats 1000000 in
theorem token_none (s : ByteArray) (hs : s.size ≤ maxLen) (h : Lx.nameL s.data.toList = false) (hn : Lx.numL s.data.toList = none) (hg : Lx.signL s.data.toList = false) (w : World) :
    Calls Tryd.prog 39 #[.string s] w fun e w' => e = .returned (.tuple #[.agg #[.int .i64 0, .string ⟨#[]⟩, .int .i64 0, .int .i64 0], .bool false]) ∧ Below w.heap.size w w' := by
  go_enter Tryd.func39, Tryd.ntmps39
  go_wp2_with (first | (go_at_call 23; refine (Name_any _ hs _).mono ?_; rintro e w' ⟨rfl, rfl⟩) | (go_at_call 67; refine (Num_any _ hs _).mono ?_; rintro e w' ⟨rfl, rfl⟩) | (go_at_call 68; refine (sign_any _ hs _).mono ?_; rintro e w' ⟨rfl, rfl⟩))
  exact bodyPost_ret (v := .tuple #[.agg #[.int .i64 0, .string ⟨#[]⟩, .int .i64 0, .int .i64 0], .bool false]) (by simp [results, Tryd.results39, go_sem]) rfl ⟨rfl, (Below.refl _ _).alloc (Nat.le_refl _) _⟩

end Go.Proofs.YtpngpkbnhepleaaDoor

/- What the page's showInstr answers. -/
import Derived.Test.YtdgfidaopkcjoaaDoorMgG
namespace Go.Proofs.YtdgfidaopkcjoaaDoor
open Go.RowKit
set_option linter.unusedVariables false
set_option linter.unusedSimpArgs false

set_option maxRecDepth 100000 in
set_option maxHeartbeats 4000000 in
theorem showInstr_0 (k : Int) (n : Int) (a b : Pp.Bs) (h1 : a.length ≤ maxLen) (h2 : b.length ≤ maxLen) (hI : ∀ w, Calls Tryd.prog 44 #[.int .i64 k, .int .i64 0, .int .i64 43] w fun e w' => e = .returned (.bool true) ∧ w' = w) (hS : ∀ w, Calls Tryd.prog 55 #[.int .i64 k] w fun e w' => e = .returned (.int .i64 0) ∧ w' = w) (w : World) :
    Calls Tryd.prog 45 #[.agg #[.int .i64 k, .int .i64 n, .string ⟨a.toArray⟩, .string ⟨b.toArray⟩]] w fun e w' => e = .returned (.bool ((n == 0) && ((a == []) && (b == [])))) ∧ Below w.heap.size w w' := by
  have HI := hide hI
  have HSh := hide hS
  have HB1 : Hid (∀ o, Below w.heap.size w (w.alloc o)) := hide fun o => (Below.refl _ _).alloc (Nat.le_refl _) o
  have hFa := hide (fun w => refFresh_any a h1 w)
  have hFb := hide (fun w => refFresh_any b h2 w)
  have hea : Hid ((a == []) = (⟨a.toArray⟩ : ByteArray).toList.isEmpty) := hide (by rw [ByteArray.toList_eq]; cases a <;> rfl)
  have heb : Hid ((b == []) = (⟨b.toArray⟩ : ByteArray).toList.isEmpty) := hide (by rw [ByteArray.toList_eq]; cases b <;> rfl)
  obtain ⟨R, hR⟩ : ∃ R, R = ((n == 0) && ((a == []) && (b == []))) := ⟨_, rfl⟩
  rw [← hR]
  have HR := hide hR
  clear hR hI hS h1 h2
  rw [hea.out] at HR
  rw [heb.out] at HR
  clear hea heb
  generalize (⟨a.toArray⟩ : ByteArray) = S1 at *
  generalize (⟨b.toArray⟩ : ByteArray) = S2 at *
  by_cases hn : n = 0
  · subst hn
    go_enter Tryd.func45, Tryd.ntmps45
    go_wp2_with fail
    refine (HI.out _).mono ?_
    rintro e wq ⟨rfl, hwq⟩
    subst hwq
    go_wp2_with fail
    refine (HSh.out _).mono ?_
    rintro e wq ⟨rfl, hwq⟩
    subst hwq
    cases hE1 : S1.toList.isEmpty with
    | false =>
      go_wp2_with fail
      go_ret
      exact ⟨by rw [HR.out]; simp [*], HB1.out _⟩
    | true =>
      cases hE2 : S2.toList.isEmpty with
      | false =>
        go_wp2_with fail
        go_ret
        exact ⟨by rw [HR.out]; simp [*], HB1.out _⟩
      | true =>
        go_wp2_with fail
        go_ret
        exact ⟨by rw [HR.out]; simp [*], HB1.out _⟩
  · have hn' : (n == 0) = false := by simpa using hn
    clear hn
    go_enter Tryd.func45, Tryd.ntmps45
    go_wp2_with fail
    refine (HI.out _).mono ?_
    rintro e wq ⟨rfl, hwq⟩
    subst hwq
    go_wp2_with fail
    refine (HSh.out _).mono ?_
    rintro e wq ⟨rfl, hwq⟩
    subst hwq
    go_wp2_with fail
    go_ret
    exact ⟨by rw [HR.out]; simp [*], HB1.out _⟩

set_option maxRecDepth 100000 in
set_option maxHeartbeats 4000000 in
theorem showInstr_1 (k : Int) (n : Int) (a b : Pp.Bs) (h1 : a.length ≤ maxLen) (h2 : b.length ≤ maxLen) (hI : ∀ w, Calls Tryd.prog 44 #[.int .i64 k, .int .i64 0, .int .i64 43] w fun e w' => e = .returned (.bool true) ∧ w' = w) (hS : ∀ w, Calls Tryd.prog 55 #[.int .i64 k] w fun e w' => e = .returned (.int .i64 1) ∧ w' = w) (w : World) :
    Calls Tryd.prog 45 #[.agg #[.int .i64 k, .int .i64 n, .string ⟨a.toArray⟩, .string ⟨b.toArray⟩]] w fun e w' => e = .returned (.bool (Pp.withinB n (-2147483648) 2147483647 && ((a == []) && (b == [])))) ∧ Below w.heap.size w w' := by
  have HI := hide hI
  have HSh := hide hS
  have HB1 : Hid (∀ o, Below w.heap.size w (w.alloc o)) := hide fun o => (Below.refl _ _).alloc (Nat.le_refl _) o
  have hFa := hide (fun w => refFresh_any a h1 w)
  have hFb := hide (fun w => refFresh_any b h2 w)
  have hea : Hid ((a == []) = (⟨a.toArray⟩ : ByteArray).toList.isEmpty) := hide (by rw [ByteArray.toList_eq]; cases a <;> rfl)
  have heb : Hid ((b == []) = (⟨b.toArray⟩ : ByteArray).toList.isEmpty) := hide (by rw [ByteArray.toList_eq]; cases b <;> rfl)
  obtain ⟨R, hR⟩ : ∃ R, R = (Pp.withinB n (-2147483648) 2147483647 && ((a == []) && (b == []))) := ⟨_, rfl⟩
  rw [← hR]
  have HR := hide hR
  clear hR hI hS h1 h2
  have HW := hide (fun w => ref_in_any n (-2147483648) 2147483647 w)
  generalize Pp.withinB n (-2147483648) 2147483647 = b0 at *
  rw [hea.out] at HR
  rw [heb.out] at HR
  clear hea heb
  generalize (⟨a.toArray⟩ : ByteArray) = S1 at *
  generalize (⟨b.toArray⟩ : ByteArray) = S2 at *
  go_enter Tryd.func45, Tryd.ntmps45
  go_wp2_with fail
  refine (HI.out _).mono ?_
  rintro e wq ⟨rfl, hwq⟩
  subst hwq
  go_wp2_with fail
  refine (HSh.out _).mono ?_
  rintro e wq ⟨rfl, hwq⟩
  subst hwq
  go_wp2_with fail
  refine (HW.out _).mono ?_
  rintro e wq ⟨rfl, hwq⟩
  subst hwq
  cases b0 with
  | false =>
    go_wp2_with fail
    go_ret
    exact ⟨by rw [HR.out]; simp [*], HB1.out _⟩
  | true =>
    cases hE1 : S1.toList.isEmpty with
    | false =>
      go_wp2_with fail
      go_ret
      exact ⟨by rw [HR.out]; simp [*], HB1.out _⟩
    | true =>
      cases hE2 : S2.toList.isEmpty with
      | false =>
        go_wp2_with fail
        go_ret
        exact ⟨by rw [HR.out]; simp [*], HB1.out _⟩
      | true =>
        go_wp2_with fail
        go_ret
        exact ⟨by rw [HR.out]; simp [*], HB1.out _⟩

set_option maxRecDepth 100000 in
set_option maxHeartbeats 4000000 in
theorem showInstr_2 (k : Int) (n : Int) (a b : Pp.Bs) (h1 : a.length ≤ maxLen) (h2 : b.length ≤ maxLen) (hI : ∀ w, Calls Tryd.prog 44 #[.int .i64 k, .int .i64 0, .int .i64 43] w fun e w' => e = .returned (.bool true) ∧ w' = w) (hS : ∀ w, Calls Tryd.prog 55 #[.int .i64 k] w fun e w' => e = .returned (.int .i64 2) ∧ w' = w) (w : World) :
    Calls Tryd.prog 45 #[.agg #[.int .i64 k, .int .i64 n, .string ⟨a.toArray⟩, .string ⟨b.toArray⟩]] w fun e w' => e = .returned (.bool (Pp.withinB n 0 7 && ((a == []) && (b == [])))) ∧ Below w.heap.size w w' := by
  have HI := hide hI
  have HSh := hide hS
  have HB1 : Hid (∀ o, Below w.heap.size w (w.alloc o)) := hide fun o => (Below.refl _ _).alloc (Nat.le_refl _) o
  have hFa := hide (fun w => refFresh_any a h1 w)
  have hFb := hide (fun w => refFresh_any b h2 w)
  have hea : Hid ((a == []) = (⟨a.toArray⟩ : ByteArray).toList.isEmpty) := hide (by rw [ByteArray.toList_eq]; cases a <;> rfl)
  have heb : Hid ((b == []) = (⟨b.toArray⟩ : ByteArray).toList.isEmpty) := hide (by rw [ByteArray.toList_eq]; cases b <;> rfl)
  obtain ⟨R, hR⟩ : ∃ R, R = (Pp.withinB n 0 7 && ((a == []) && (b == []))) := ⟨_, rfl⟩
  rw [← hR]
  have HR := hide hR
  clear hR hI hS h1 h2
  have HW := hide (fun w => ref_in_any n 0 7 w)
  generalize Pp.withinB n 0 7 = b0 at *
  rw [hea.out] at HR
  rw [heb.out] at HR
  clear hea heb
  generalize (⟨a.toArray⟩ : ByteArray) = S1 at *
  generalize (⟨b.toArray⟩ : ByteArray) = S2 at *
  go_enter Tryd.func45, Tryd.ntmps45
  go_wp2_with fail
  refine (HI.out _).mono ?_
  rintro e wq ⟨rfl, hwq⟩
  subst hwq
  go_wp2_with fail
  refine (HSh.out _).mono ?_
  rintro e wq ⟨rfl, hwq⟩
  subst hwq
  go_wp2_with fail
  refine (HW.out _).mono ?_
  rintro e wq ⟨rfl, hwq⟩
  subst hwq
  cases b0 with
  | false =>
    go_wp2_with fail
    go_ret
    exact ⟨by rw [HR.out]; simp [*], HB1.out _⟩
  | true =>
    cases hE1 : S1.toList.isEmpty with
    | false =>
      go_wp2_with fail
      go_ret
      exact ⟨by rw [HR.out]; simp [*], HB1.out _⟩
    | true =>
      cases hE2 : S2.toList.isEmpty with
      | false =>
        go_wp2_with fail
        go_ret
        exact ⟨by rw [HR.out]; simp [*], HB1.out _⟩
      | true =>
        go_wp2_with fail
        go_ret
        exact ⟨by rw [HR.out]; simp [*], HB1.out _⟩

set_option maxRecDepth 100000 in
set_option maxHeartbeats 4000000 in
theorem showInstr_3 (k : Int) (n : Int) (a b : Pp.Bs) (h1 : a.length ≤ maxLen) (h2 : b.length ≤ maxLen) (hI : ∀ w, Calls Tryd.prog 44 #[.int .i64 k, .int .i64 0, .int .i64 43] w fun e w' => e = .returned (.bool true) ∧ w' = w) (hS : ∀ w, Calls Tryd.prog 55 #[.int .i64 k] w fun e w' => e = .returned (.int .i64 3) ∧ w' = w) (w : World) :
    Calls Tryd.prog 45 #[.agg #[.int .i64 k, .int .i64 n, .string ⟨a.toArray⟩, .string ⟨b.toArray⟩]] w fun e w' => e = .returned (.bool (Pp.withinB n 0 47 && ((a == []) && (b == [])))) ∧ Below w.heap.size w w' := by
  have HI := hide hI
  have HSh := hide hS
  have HB1 : Hid (∀ o, Below w.heap.size w (w.alloc o)) := hide fun o => (Below.refl _ _).alloc (Nat.le_refl _) o
  have hFa := hide (fun w => refFresh_any a h1 w)
  have hFb := hide (fun w => refFresh_any b h2 w)
  have hea : Hid ((a == []) = (⟨a.toArray⟩ : ByteArray).toList.isEmpty) := hide (by rw [ByteArray.toList_eq]; cases a <;> rfl)
  have heb : Hid ((b == []) = (⟨b.toArray⟩ : ByteArray).toList.isEmpty) := hide (by rw [ByteArray.toList_eq]; cases b <;> rfl)
  obtain ⟨R, hR⟩ : ∃ R, R = (Pp.withinB n 0 47 && ((a == []) && (b == []))) := ⟨_, rfl⟩
  rw [← hR]
  have HR := hide hR
  clear hR hI hS h1 h2
  have HW := hide (fun w => ref_in_any n 0 47 w)
  generalize Pp.withinB n 0 47 = b0 at *
  rw [hea.out] at HR
  rw [heb.out] at HR
  clear hea heb
  generalize (⟨a.toArray⟩ : ByteArray) = S1 at *
  generalize (⟨b.toArray⟩ : ByteArray) = S2 at *
  go_enter Tryd.func45, Tryd.ntmps45
  go_wp2_with fail
  refine (HI.out _).mono ?_
  rintro e wq ⟨rfl, hwq⟩
  subst hwq
  go_wp2_with fail
  refine (HSh.out _).mono ?_
  rintro e wq ⟨rfl, hwq⟩
  subst hwq
  go_wp2_with fail
  refine (HW.out _).mono ?_
  rintro e wq ⟨rfl, hwq⟩
  subst hwq
  cases b0 with
  | false =>
    go_wp2_with fail
    go_ret
    exact ⟨by rw [HR.out]; simp [*], HB1.out _⟩
  | true =>
    cases hE1 : S1.toList.isEmpty with
    | false =>
      go_wp2_with fail
      go_ret
      exact ⟨by rw [HR.out]; simp [*], HB1.out _⟩
    | true =>
      cases hE2 : S2.toList.isEmpty with
      | false =>
        go_wp2_with fail
        go_ret
        exact ⟨by rw [HR.out]; simp [*], HB1.out _⟩
      | true =>
        go_wp2_with fail
        go_ret
        exact ⟨by rw [HR.out]; simp [*], HB1.out _⟩

set_option maxRecDepth 100000 in
set_option maxHeartbeats 4000000 in
theorem showInstr_4 (k : Int) (n : Int) (a b : Pp.Bs) (h1 : a.length ≤ maxLen) (h2 : b.length ≤ maxLen) (hI : ∀ w, Calls Tryd.prog 44 #[.int .i64 k, .int .i64 0, .int .i64 43] w fun e w' => e = .returned (.bool true) ∧ w' = w) (hS : ∀ w, Calls Tryd.prog 55 #[.int .i64 k] w fun e w' => e = .returned (.int .i64 4) ∧ w' = w) (w : World) :
    Calls Tryd.prog 45 #[.agg #[.int .i64 k, .int .i64 n, .string ⟨a.toArray⟩, .string ⟨b.toArray⟩]] w fun e w' => e = .returned (.bool ((n == 0) && (Pp.freshB a && (b == [])))) ∧ Below w.heap.size w w' := by
  have HI := hide hI
  have HSh := hide hS
  have HB1 : Hid (∀ o, Below w.heap.size w (w.alloc o)) := hide fun o => (Below.refl _ _).alloc (Nat.le_refl _) o
  have hFa := hide (fun w => refFresh_any a h1 w)
  have hFb := hide (fun w => refFresh_any b h2 w)
  have hea : Hid ((a == []) = (⟨a.toArray⟩ : ByteArray).toList.isEmpty) := hide (by rw [ByteArray.toList_eq]; cases a <;> rfl)
  have heb : Hid ((b == []) = (⟨b.toArray⟩ : ByteArray).toList.isEmpty) := hide (by rw [ByteArray.toList_eq]; cases b <;> rfl)
  obtain ⟨R, hR⟩ : ∃ R, R = ((n == 0) && (Pp.freshB a && (b == []))) := ⟨_, rfl⟩
  rw [← hR]
  have HR := hide hR
  clear hR hI hS h1 h2
  rw [heb.out] at HR
  clear hea heb
  generalize (⟨a.toArray⟩ : ByteArray) = S1 at *
  generalize (⟨b.toArray⟩ : ByteArray) = S2 at *
  generalize Pp.freshB a = f1 at *
  by_cases hn : n = 0
  · subst hn
    go_enter Tryd.func45, Tryd.ntmps45
    go_wp2_with fail
    refine (HI.out _).mono ?_
    rintro e wq ⟨rfl, hwq⟩
    subst hwq
    go_wp2_with fail
    refine (HSh.out _).mono ?_
    rintro e wq ⟨rfl, hwq⟩
    subst hwq
    go_wp2_with fail
    refine (hFa.out _).mono ?_
    rintro e w3 ⟨rfl, hb3⟩
    obtain ⟨B1, HBx, hsz⟩ := box_one hb3
    have p2 : w3.cell? ⟨w.heap.size, 2, none⟩ = some (.string S1) := B1 2
    have p3 : w3.cell? ⟨w.heap.size, 3, none⟩ = some (.string S2) := B1 3
    have HB3 := hide HBx
    clear B1 hb3 HBx
    cases f1 with
    | false =>
      go_wp2_with fail
      go_ret
      exact ⟨by rw [HR.out]; simp [*], HB3.out⟩
    | true =>
      cases hE2 : S2.toList.isEmpty with
      | false =>
        go_wp2_with fail
        go_ret
        exact ⟨by rw [HR.out]; simp [*], HB3.out⟩
      | true =>
        go_wp2_with fail
        go_ret
        exact ⟨by rw [HR.out]; simp [*], HB3.out⟩
  · have hn' : (n == 0) = false := by simpa using hn
    clear hn
    go_enter Tryd.func45, Tryd.ntmps45
    go_wp2_with fail
    refine (HI.out _).mono ?_
    rintro e wq ⟨rfl, hwq⟩
    subst hwq
    go_wp2_with fail
    refine (HSh.out _).mono ?_
    rintro e wq ⟨rfl, hwq⟩
    subst hwq
    go_wp2_with fail
    go_ret
    exact ⟨by rw [HR.out]; simp [*], HB1.out _⟩

set_option maxRecDepth 100000 in
set_option maxHeartbeats 4000000 in
theorem showInstr_5 (k : Int) (n : Int) (a b : Pp.Bs) (h1 : a.length ≤ maxLen) (h2 : b.length ≤ maxLen) (hI : ∀ w, Calls Tryd.prog 44 #[.int .i64 k, .int .i64 0, .int .i64 43] w fun e w' => e = .returned (.bool true) ∧ w' = w) (hS : ∀ w, Calls Tryd.prog 55 #[.int .i64 k] w fun e w' => e = .returned (.int .i64 5) ∧ w' = w) (w : World) :
    Calls Tryd.prog 45 #[.agg #[.int .i64 k, .int .i64 n, .string ⟨a.toArray⟩, .string ⟨b.toArray⟩]] w fun e w' => e = .returned (.bool ((n == 0) && (Pp.freshB a && Pp.freshB b))) ∧ Below w.heap.size w w' := by
  have HI := hide hI
  have HSh := hide hS
  have HB1 : Hid (∀ o, Below w.heap.size w (w.alloc o)) := hide fun o => (Below.refl _ _).alloc (Nat.le_refl _) o
  have hFa := hide (fun w => refFresh_any a h1 w)
  have hFb := hide (fun w => refFresh_any b h2 w)
  have hea : Hid ((a == []) = (⟨a.toArray⟩ : ByteArray).toList.isEmpty) := hide (by rw [ByteArray.toList_eq]; cases a <;> rfl)
  have heb : Hid ((b == []) = (⟨b.toArray⟩ : ByteArray).toList.isEmpty) := hide (by rw [ByteArray.toList_eq]; cases b <;> rfl)
  obtain ⟨R, hR⟩ : ∃ R, R = ((n == 0) && (Pp.freshB a && Pp.freshB b)) := ⟨_, rfl⟩
  rw [← hR]
  have HR := hide hR
  clear hR hI hS h1 h2

  clear hea heb
  generalize (⟨a.toArray⟩ : ByteArray) = S1 at *
  generalize (⟨b.toArray⟩ : ByteArray) = S2 at *
  generalize Pp.freshB a = f1 at *
  generalize Pp.freshB b = f2 at *
  by_cases hn : n = 0
  · subst hn
    go_enter Tryd.func45, Tryd.ntmps45
    go_wp2_with fail
    refine (HI.out _).mono ?_
    rintro e wq ⟨rfl, hwq⟩
    subst hwq
    go_wp2_with fail
    refine (HSh.out _).mono ?_
    rintro e wq ⟨rfl, hwq⟩
    subst hwq
    go_wp2_with fail
    refine (hFa.out _).mono ?_
    rintro e w3 ⟨rfl, hb3⟩
    obtain ⟨B1, HBx, hsz⟩ := box_one hb3
    have p2 : w3.cell? ⟨w.heap.size, 2, none⟩ = some (.string S1) := B1 2
    have p3 : w3.cell? ⟨w.heap.size, 3, none⟩ = some (.string S2) := B1 3
    have HB3 := hide HBx
    clear B1 hb3 HBx
    cases f1 with
    | false =>
      go_wp2_with fail
      go_ret
      exact ⟨by rw [HR.out]; simp [*], HB3.out⟩
    | true =>
      go_wp2_with fail
      refine (hFb.out _).mono ?_
      rintro e w4 ⟨rfl, hb4⟩
      have HB4 := hide (HB3.out.trans (hb4.mono HB3.out.size))
      clear hb4
      go_wp2_with fail
      go_ret
      exact ⟨by rw [HR.out]; simp, HB4.out⟩
  · have hn' : (n == 0) = false := by simpa using hn
    clear hn
    go_enter Tryd.func45, Tryd.ntmps45
    go_wp2_with fail
    refine (HI.out _).mono ?_
    rintro e wq ⟨rfl, hwq⟩
    subst hwq
    go_wp2_with fail
    refine (HSh.out _).mono ?_
    rintro e wq ⟨rfl, hwq⟩
    subst hwq
    go_wp2_with fail
    go_ret
    exact ⟨by rw [HR.out]; simp [*], HB1.out _⟩

theorem showInstr_any (x : Pp.XIns) (h1 : x.a.length ≤ maxLen) (h2 : x.b.length ≤ maxLen) (w : World) :
    Calls Tryd.prog 45 #[.agg #[.int .i64 x.op, .int .i64 x.n, .string ⟨x.a.toArray⟩, .string ⟨x.b.toArray⟩]] w fun e w' => e = .returned (.bool (Pp.insB x)) ∧ Below w.heap.size w w' := by
  obtain ⟨op, n, a, b⟩ := x
  simp only at h1 h2 ⊢
  have hI := hide (fun w => ref_in_any op 0 43 w)
  have HB1 : Hid (∀ o, Below w.heap.size w (w.alloc o)) := hide fun o => (Below.refl _ _).alloc (Nat.le_refl _) o
  by_cases hop : 0 ≤ op ∧ op < 44
  · obtain ⟨k, rfl⟩ := Int.eq_ofNat_of_zero_le hop.1
    have hk : k < 44 := by omega
    have hw : Pp.withinB (k : Int) 0 43 = true := by simp [Pp.withinB]; omega
    rw [hw] at hI
    have hSh := fun w => Shape_any k hk w
    have hR : Pp.insB ⟨(k : Int), n, a, b⟩ = (Pp.withinB n (Pp.argsX (k : Int)).2.1 (Pp.argsX (k : Int)).2.2.1 && (Pp.argB a (decide (1 ≤ (Pp.argsX (k : Int)).2.2.2)) && Pp.argB b (decide (2 ≤ (Pp.argsX (k : Int)).2.2.2)))) := by
      unfold Pp.insB
      have : (decide (0 ≤ (k : Int)) && decide ((k : Int) < 44)) = true := by simp; omega
      simp only [this, Bool.true_and]
    rw [Pp.argsX_shape k hk] at hR
    have hsl := Pp.shape_le k
    have hz : Pp.withinB n 0 0 = (n == 0) := by
      unfold Pp.withinB
      by_cases h : n = 0
      · subst h; rfl
      · have e : (n == 0) = false := by simpa using h
        rw [e]; simp; omega
    rcases (show Pp.shape k = 0 ∨ Pp.shape k = 1 ∨ Pp.shape k = 2 ∨ Pp.shape k = 3 ∨ Pp.shape k = 4 ∨ Pp.shape k = 5 by omega) with hs | hs | hs | hs | hs | hs
    · rw [hs] at hR hSh
      have e : Pp.insB ⟨(k : Int), n, a, b⟩ = (Pp.withinB n 0 0 && ((a == []) && (b == []))) := hR
      rw [e, hz]; exact showInstr_0 k n a b h1 h2 hI.out hSh w
    · rw [hs] at hR hSh
      have e : Pp.insB ⟨(k : Int), n, a, b⟩ = (Pp.withinB n (-2147483648) 2147483647 && ((a == []) && (b == []))) := hR
      rw [e]; exact showInstr_1 k n a b h1 h2 hI.out hSh w
    · rw [hs] at hR hSh
      have e : Pp.insB ⟨(k : Int), n, a, b⟩ = (Pp.withinB n 0 7 && ((a == []) && (b == []))) := hR
      rw [e]; exact showInstr_2 k n a b h1 h2 hI.out hSh w
    · rw [hs] at hR hSh
      have e : Pp.insB ⟨(k : Int), n, a, b⟩ = (Pp.withinB n 0 47 && ((a == []) && (b == []))) := hR
      rw [e]; exact showInstr_3 k n a b h1 h2 hI.out hSh w
    · rw [hs] at hR hSh
      have e : Pp.insB ⟨(k : Int), n, a, b⟩ = (Pp.withinB n 0 0 && (Pp.freshB a && (b == []))) := hR
      rw [e, hz]; exact showInstr_4 k n a b h1 h2 hI.out hSh w
    · rw [hs] at hR hSh
      have e : Pp.insB ⟨(k : Int), n, a, b⟩ = (Pp.withinB n 0 0 && (Pp.freshB a && Pp.freshB b)) := hR
      rw [e, hz]; exact showInstr_5 k n a b h1 h2 hI.out hSh w
  · have hR : Hid (Pp.insB ⟨op, n, a, b⟩ = false) := hide (by
      unfold Pp.insB
      have : (decide (0 ≤ op) && decide (op < 44)) = false := by simp; omega
      rw [this]; rfl)
    have hw : Hid (Pp.withinB op 0 43 = false) := hide (by simp [Pp.withinB]; omega)
    rw [hw.out] at hI
    rw [hR.out]
    generalize (⟨a.toArray⟩ : ByteArray) = S1 at *
    generalize (⟨b.toArray⟩ : ByteArray) = S2 at *
    clear hop
    go_enter Tryd.func45, Tryd.ntmps45
    go_wp2_with fail
    refine (hI.out _).mono ?_
    rintro e wq ⟨rfl, hwq⟩
    subst hwq
    go_wp2_with fail
    go_ret
    exact ⟨rfl, HB1.out _⟩

end Go.Proofs.YtdgfidaopkcjoaaDoor

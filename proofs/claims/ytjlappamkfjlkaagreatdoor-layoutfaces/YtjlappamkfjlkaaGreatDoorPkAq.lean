/- What the laws of this seat lean on: 2 texts. -/
import Derived.Test.YtjlappamkfjlkaaGreatDoorPkAp
import Derived.Test.YtjlappamkfjlkaaGreatDoorPkAa
set_option maxRecDepth 100000
set_option maxHeartbeats 64000000
set_option linter.unusedVariables false
set_option linter.unusedSimpArgs false
namespace Go.Proofs.YtjlappamkfjlkaaGreatDoor
open Go.RowKit
theorem showInstr_0 (k : Int) (n : Int) (a b : Pp.Bs) (h1 : a.length <= maxLen) (h2 : b.length <= maxLen) (hI : ∀ w, Calls Tryz.prog 100 #[.int .i64 k, .int .i64 0, .int .i64 43] w fun e w' => e = .returned (.bool true) /\ w' = w) (hS : ∀ w, Calls Tryz.prog 118 #[.int .i64 k] w fun e w' => e = .returned (.int .i64 0) /\ w' = w) (w : World) :
 Calls Tryz.prog 101 #[.agg #[.int .i64 k, .int .i64 n, .string ⟨a.toArray⟩, .string ⟨b.toArray⟩]] w fun e w' => e = .returned (.bool ((n == 0) && ((a == []) && (b == [])))) /\ Below w.heap.size w w' := by
 have HI := hide hI; have HSh := hide hS; have HB1 : Hid (∀ o, Below w.heap.size w (w.alloc o)) := hide fun o => (Below.refl _ _).alloc (Nat.le_refl _) o; have hFa := hide (fun w => refFresh_any a h1 w); have hFb := hide (fun w => refFresh_any b h2 w); have hea : Hid ((a == []) = (⟨a.toArray⟩ : ByteArray).toList.isEmpty) := hide (by rw [ByteArray.toList_eq]; cases a <;> rfl)
 have heb : Hid ((b == []) = (⟨b.toArray⟩ : ByteArray).toList.isEmpty) := hide (by rw [ByteArray.toList_eq]; cases b <;> rfl)
 obtain ⟨R, hR⟩ : ∃ R, R = ((n == 0) && ((a == []) && (b == []))) := ⟨_, rfl⟩; rw [<- hR]; have HR := hide hR; clear hR hI hS h1 h2; rw [hea.out] at HR; rw [heb.out] at HR; clear hea heb; generalize (⟨a.toArray⟩ : ByteArray) = S1 at *
 generalize (⟨b.toArray⟩ : ByteArray) = S2 at *
 by_cases hn : n = 0
 · subst hn
   go_enter Tryz.func101, Tryz.ntmps101; go_wp2_with fail; refine (HI.out _).mono ?_; rintro e wq ⟨rfl, hwq⟩; subst hwq; go_wp2_with fail; refine (HSh.out _).mono ?_; rintro e wq ⟨rfl, hwq⟩; subst hwq; cases hE1 : S1.toList.isEmpty with
   | false =>
     go_wp2_with fail; go_ret; exact ⟨by rw [HR.out]; simp [*], HB1.out _⟩
   | true =>
     cases hE2 : S2.toList.isEmpty with
     | false =>
       go_wp2_with fail; go_ret; exact ⟨by rw [HR.out]; simp [*], HB1.out _⟩
     | true =>
       go_wp2_with fail; go_ret; exact ⟨by rw [HR.out]; simp [*], HB1.out _⟩
 · have hn' : (n == 0) = false := by simpa using hn
   clear hn; go_enter Tryz.func101, Tryz.ntmps101; go_wp2_with fail; refine (HI.out _).mono ?_; rintro e wq ⟨rfl, hwq⟩; subst hwq; go_wp2_with fail; refine (HSh.out _).mono ?_; rintro e wq ⟨rfl, hwq⟩; subst hwq; go_wp2_with fail; go_ret; exact ⟨by rw [HR.out]; simp [*], HB1.out _⟩
theorem showInstr_1 (k : Int) (n : Int) (a b : Pp.Bs) (h1 : a.length <= maxLen) (h2 : b.length <= maxLen) (hI : ∀ w, Calls Tryz.prog 100 #[.int .i64 k, .int .i64 0, .int .i64 43] w fun e w' => e = .returned (.bool true) /\ w' = w) (hS : ∀ w, Calls Tryz.prog 118 #[.int .i64 k] w fun e w' => e = .returned (.int .i64 1) /\ w' = w) (w : World) :
 Calls Tryz.prog 101 #[.agg #[.int .i64 k, .int .i64 n, .string ⟨a.toArray⟩, .string ⟨b.toArray⟩]] w fun e w' => e = .returned (.bool (Pp.withinB n (-2147483648) 2147483647 && ((a == []) && (b == [])))) /\ Below w.heap.size w w' := by
 have HI := hide hI; have HSh := hide hS; have HB1 : Hid (∀ o, Below w.heap.size w (w.alloc o)) := hide fun o => (Below.refl _ _).alloc (Nat.le_refl _) o; have hFa := hide (fun w => refFresh_any a h1 w); have hFb := hide (fun w => refFresh_any b h2 w); have hea : Hid ((a == []) = (⟨a.toArray⟩ : ByteArray).toList.isEmpty) := hide (by rw [ByteArray.toList_eq]; cases a <;> rfl)
 have heb : Hid ((b == []) = (⟨b.toArray⟩ : ByteArray).toList.isEmpty) := hide (by rw [ByteArray.toList_eq]; cases b <;> rfl)
 obtain ⟨R, hR⟩ : ∃ R, R = (Pp.withinB n (-2147483648) 2147483647 && ((a == []) && (b == []))) := ⟨_, rfl⟩; rw [<- hR]; have HR := hide hR; clear hR hI hS h1 h2; have HW := hide (fun w => ref_in_any n (-2147483648) 2147483647 w); generalize Pp.withinB n (-2147483648) 2147483647 = b0 at *
 rw [hea.out] at HR; rw [heb.out] at HR; clear hea heb; generalize (⟨a.toArray⟩ : ByteArray) = S1 at *
 generalize (⟨b.toArray⟩ : ByteArray) = S2 at *
 go_enter Tryz.func101, Tryz.ntmps101; go_wp2_with fail; refine (HI.out _).mono ?_; rintro e wq ⟨rfl, hwq⟩; subst hwq; go_wp2_with fail; refine (HSh.out _).mono ?_; rintro e wq ⟨rfl, hwq⟩; subst hwq; go_wp2_with fail; refine (HW.out _).mono ?_; rintro e wq ⟨rfl, hwq⟩; subst hwq; cases b0 with
 | false =>
   go_wp2_with fail; go_ret; exact ⟨by rw [HR.out]; simp [*], HB1.out _⟩
 | true =>
   cases hE1 : S1.toList.isEmpty with
   | false =>
     go_wp2_with fail; go_ret; exact ⟨by rw [HR.out]; simp [*], HB1.out _⟩
   | true =>
     cases hE2 : S2.toList.isEmpty with
     | false =>
       go_wp2_with fail; go_ret; exact ⟨by rw [HR.out]; simp [*], HB1.out _⟩
     | true =>
       go_wp2_with fail; go_ret; exact ⟨by rw [HR.out]; simp [*], HB1.out _⟩
theorem showInstr_2 (k : Int) (n : Int) (a b : Pp.Bs) (h1 : a.length <= maxLen) (h2 : b.length <= maxLen) (hI : ∀ w, Calls Tryz.prog 100 #[.int .i64 k, .int .i64 0, .int .i64 43] w fun e w' => e = .returned (.bool true) /\ w' = w) (hS : ∀ w, Calls Tryz.prog 118 #[.int .i64 k] w fun e w' => e = .returned (.int .i64 2) /\ w' = w) (w : World) :
 Calls Tryz.prog 101 #[.agg #[.int .i64 k, .int .i64 n, .string ⟨a.toArray⟩, .string ⟨b.toArray⟩]] w fun e w' => e = .returned (.bool (Pp.withinB n 0 7 && ((a == []) && (b == [])))) /\ Below w.heap.size w w' := by
 have HI := hide hI; have HSh := hide hS; have HB1 : Hid (∀ o, Below w.heap.size w (w.alloc o)) := hide fun o => (Below.refl _ _).alloc (Nat.le_refl _) o; have hFa := hide (fun w => refFresh_any a h1 w); have hFb := hide (fun w => refFresh_any b h2 w); have hea : Hid ((a == []) = (⟨a.toArray⟩ : ByteArray).toList.isEmpty) := hide (by rw [ByteArray.toList_eq]; cases a <;> rfl)
 have heb : Hid ((b == []) = (⟨b.toArray⟩ : ByteArray).toList.isEmpty) := hide (by rw [ByteArray.toList_eq]; cases b <;> rfl)
 obtain ⟨R, hR⟩ : ∃ R, R = (Pp.withinB n 0 7 && ((a == []) && (b == []))) := ⟨_, rfl⟩; rw [<- hR]; have HR := hide hR; clear hR hI hS h1 h2; have HW := hide (fun w => ref_in_any n 0 7 w); generalize Pp.withinB n 0 7 = b0 at *
 rw [hea.out] at HR; rw [heb.out] at HR; clear hea heb; generalize (⟨a.toArray⟩ : ByteArray) = S1 at *
 generalize (⟨b.toArray⟩ : ByteArray) = S2 at *
 go_enter Tryz.func101, Tryz.ntmps101; go_wp2_with fail; refine (HI.out _).mono ?_; rintro e wq ⟨rfl, hwq⟩; subst hwq; go_wp2_with fail; refine (HSh.out _).mono ?_; rintro e wq ⟨rfl, hwq⟩; subst hwq; go_wp2_with fail; refine (HW.out _).mono ?_; rintro e wq ⟨rfl, hwq⟩; subst hwq; cases b0 with
 | false =>
   go_wp2_with fail; go_ret; exact ⟨by rw [HR.out]; simp [*], HB1.out _⟩
 | true =>
   cases hE1 : S1.toList.isEmpty with
   | false =>
     go_wp2_with fail; go_ret; exact ⟨by rw [HR.out]; simp [*], HB1.out _⟩
   | true =>
     cases hE2 : S2.toList.isEmpty with
     | false =>
       go_wp2_with fail; go_ret; exact ⟨by rw [HR.out]; simp [*], HB1.out _⟩
     | true =>
       go_wp2_with fail; go_ret; exact ⟨by rw [HR.out]; simp [*], HB1.out _⟩
theorem showInstr_3 (k : Int) (n : Int) (a b : Pp.Bs) (h1 : a.length <= maxLen) (h2 : b.length <= maxLen) (hI : ∀ w, Calls Tryz.prog 100 #[.int .i64 k, .int .i64 0, .int .i64 43] w fun e w' => e = .returned (.bool true) /\ w' = w) (hS : ∀ w, Calls Tryz.prog 118 #[.int .i64 k] w fun e w' => e = .returned (.int .i64 3) /\ w' = w) (w : World) :
 Calls Tryz.prog 101 #[.agg #[.int .i64 k, .int .i64 n, .string ⟨a.toArray⟩, .string ⟨b.toArray⟩]] w fun e w' => e = .returned (.bool (Pp.withinB n 0 47 && ((a == []) && (b == [])))) /\ Below w.heap.size w w' := by
 have HI := hide hI; have HSh := hide hS; have HB1 : Hid (∀ o, Below w.heap.size w (w.alloc o)) := hide fun o => (Below.refl _ _).alloc (Nat.le_refl _) o; have hFa := hide (fun w => refFresh_any a h1 w); have hFb := hide (fun w => refFresh_any b h2 w); have hea : Hid ((a == []) = (⟨a.toArray⟩ : ByteArray).toList.isEmpty) := hide (by rw [ByteArray.toList_eq]; cases a <;> rfl)
 have heb : Hid ((b == []) = (⟨b.toArray⟩ : ByteArray).toList.isEmpty) := hide (by rw [ByteArray.toList_eq]; cases b <;> rfl)
 obtain ⟨R, hR⟩ : ∃ R, R = (Pp.withinB n 0 47 && ((a == []) && (b == []))) := ⟨_, rfl⟩; rw [<- hR]; have HR := hide hR; clear hR hI hS h1 h2; have HW := hide (fun w => ref_in_any n 0 47 w); generalize Pp.withinB n 0 47 = b0 at *
 rw [hea.out] at HR; rw [heb.out] at HR; clear hea heb; generalize (⟨a.toArray⟩ : ByteArray) = S1 at *
 generalize (⟨b.toArray⟩ : ByteArray) = S2 at *
 go_enter Tryz.func101, Tryz.ntmps101; go_wp2_with fail; refine (HI.out _).mono ?_; rintro e wq ⟨rfl, hwq⟩; subst hwq; go_wp2_with fail; refine (HSh.out _).mono ?_; rintro e wq ⟨rfl, hwq⟩; subst hwq; go_wp2_with fail; refine (HW.out _).mono ?_; rintro e wq ⟨rfl, hwq⟩; subst hwq; cases b0 with
 | false =>
   go_wp2_with fail; go_ret; exact ⟨by rw [HR.out]; simp [*], HB1.out _⟩
 | true =>
   cases hE1 : S1.toList.isEmpty with
   | false =>
     go_wp2_with fail; go_ret; exact ⟨by rw [HR.out]; simp [*], HB1.out _⟩
   | true =>
     cases hE2 : S2.toList.isEmpty with
     | false =>
       go_wp2_with fail; go_ret; exact ⟨by rw [HR.out]; simp [*], HB1.out _⟩
     | true =>
       go_wp2_with fail; go_ret; exact ⟨by rw [HR.out]; simp [*], HB1.out _⟩
theorem showInstr_4 (k : Int) (n : Int) (a b : Pp.Bs) (h1 : a.length <= maxLen) (h2 : b.length <= maxLen) (hI : ∀ w, Calls Tryz.prog 100 #[.int .i64 k, .int .i64 0, .int .i64 43] w fun e w' => e = .returned (.bool true) /\ w' = w) (hS : ∀ w, Calls Tryz.prog 118 #[.int .i64 k] w fun e w' => e = .returned (.int .i64 4) /\ w' = w) (w : World) :
 Calls Tryz.prog 101 #[.agg #[.int .i64 k, .int .i64 n, .string ⟨a.toArray⟩, .string ⟨b.toArray⟩]] w fun e w' => e = .returned (.bool ((n == 0) && (Pp.freshB a && (b == [])))) /\ Below w.heap.size w w' := by
 have HI := hide hI; have HSh := hide hS; have HB1 : Hid (∀ o, Below w.heap.size w (w.alloc o)) := hide fun o => (Below.refl _ _).alloc (Nat.le_refl _) o; have hFa := hide (fun w => refFresh_any a h1 w); have hFb := hide (fun w => refFresh_any b h2 w); have hea : Hid ((a == []) = (⟨a.toArray⟩ : ByteArray).toList.isEmpty) := hide (by rw [ByteArray.toList_eq]; cases a <;> rfl)
 have heb : Hid ((b == []) = (⟨b.toArray⟩ : ByteArray).toList.isEmpty) := hide (by rw [ByteArray.toList_eq]; cases b <;> rfl)
 obtain ⟨R, hR⟩ : ∃ R, R = ((n == 0) && (Pp.freshB a && (b == []))) := ⟨_, rfl⟩; rw [<- hR]; have HR := hide hR; clear hR hI hS h1 h2; rw [heb.out] at HR; clear hea heb; generalize (⟨a.toArray⟩ : ByteArray) = S1 at *
 generalize (⟨b.toArray⟩ : ByteArray) = S2 at *
 generalize Pp.freshB a = f1 at *
 by_cases hn : n = 0
 · subst hn
   go_enter Tryz.func101, Tryz.ntmps101; go_wp2_with fail; refine (HI.out _).mono ?_; rintro e wq ⟨rfl, hwq⟩; subst hwq; go_wp2_with fail; refine (HSh.out _).mono ?_; rintro e wq ⟨rfl, hwq⟩; subst hwq; go_wp2_with fail; refine (hFa.out _).mono ?_; rintro e w3 ⟨rfl, hb3⟩; obtain ⟨B1, HBx, hsz⟩ := box_one hb3; have p2 : w3.cell? ⟨w.heap.size, 2, none⟩ = some (.string S1) := B1 2; have p3 : w3.cell? ⟨w.heap.size, 3, none⟩ = some (.string S2) := B1 3; have HB3 := hide HBx; clear B1 hb3 HBx; cases f1 with
   | false =>
     go_wp2_with fail; go_ret; exact ⟨by rw [HR.out]; simp [*], HB3.out⟩
   | true =>
     cases hE2 : S2.toList.isEmpty with
     | false =>
       go_wp2_with fail; go_ret; exact ⟨by rw [HR.out]; simp [*], HB3.out⟩
     | true =>
       go_wp2_with fail; go_ret; exact ⟨by rw [HR.out]; simp [*], HB3.out⟩
 · have hn' : (n == 0) = false := by simpa using hn
   clear hn; go_enter Tryz.func101, Tryz.ntmps101; go_wp2_with fail; refine (HI.out _).mono ?_; rintro e wq ⟨rfl, hwq⟩; subst hwq; go_wp2_with fail; refine (HSh.out _).mono ?_; rintro e wq ⟨rfl, hwq⟩; subst hwq; go_wp2_with fail; go_ret; exact ⟨by rw [HR.out]; simp [*], HB1.out _⟩
theorem showInstr_5 (k : Int) (n : Int) (a b : Pp.Bs) (h1 : a.length <= maxLen) (h2 : b.length <= maxLen) (hI : ∀ w, Calls Tryz.prog 100 #[.int .i64 k, .int .i64 0, .int .i64 43] w fun e w' => e = .returned (.bool true) /\ w' = w) (hS : ∀ w, Calls Tryz.prog 118 #[.int .i64 k] w fun e w' => e = .returned (.int .i64 5) /\ w' = w) (w : World) :
 Calls Tryz.prog 101 #[.agg #[.int .i64 k, .int .i64 n, .string ⟨a.toArray⟩, .string ⟨b.toArray⟩]] w fun e w' => e = .returned (.bool ((n == 0) && (Pp.freshB a && Pp.freshB b))) /\ Below w.heap.size w w' := by
 have HI := hide hI; have HSh := hide hS; have HB1 : Hid (∀ o, Below w.heap.size w (w.alloc o)) := hide fun o => (Below.refl _ _).alloc (Nat.le_refl _) o; have hFa := hide (fun w => refFresh_any a h1 w); have hFb := hide (fun w => refFresh_any b h2 w); have hea : Hid ((a == []) = (⟨a.toArray⟩ : ByteArray).toList.isEmpty) := hide (by rw [ByteArray.toList_eq]; cases a <;> rfl)
 have heb : Hid ((b == []) = (⟨b.toArray⟩ : ByteArray).toList.isEmpty) := hide (by rw [ByteArray.toList_eq]; cases b <;> rfl)
 obtain ⟨R, hR⟩ : ∃ R, R = ((n == 0) && (Pp.freshB a && Pp.freshB b)) := ⟨_, rfl⟩; rw [<- hR]; have HR := hide hR; clear hR hI hS h1 h2; clear hea heb; generalize (⟨a.toArray⟩ : ByteArray) = S1 at *
 generalize (⟨b.toArray⟩ : ByteArray) = S2 at *
 generalize Pp.freshB a = f1 at *
 generalize Pp.freshB b = f2 at *
 by_cases hn : n = 0
 · subst hn
   go_enter Tryz.func101, Tryz.ntmps101; go_wp2_with fail; refine (HI.out _).mono ?_; rintro e wq ⟨rfl, hwq⟩; subst hwq; go_wp2_with fail; refine (HSh.out _).mono ?_; rintro e wq ⟨rfl, hwq⟩; subst hwq; go_wp2_with fail; refine (hFa.out _).mono ?_; rintro e w3 ⟨rfl, hb3⟩; obtain ⟨B1, HBx, hsz⟩ := box_one hb3; have p2 : w3.cell? ⟨w.heap.size, 2, none⟩ = some (.string S1) := B1 2; have p3 : w3.cell? ⟨w.heap.size, 3, none⟩ = some (.string S2) := B1 3; have HB3 := hide HBx; clear B1 hb3 HBx; cases f1 with
   | false =>
     go_wp2_with fail; go_ret; exact ⟨by rw [HR.out]; simp [*], HB3.out⟩
   | true =>
     go_wp2_with fail; refine (hFb.out _).mono ?_; rintro e w4 ⟨rfl, hb4⟩; have HB4 := hide (HB3.out.trans (hb4.mono HB3.out.size)); clear hb4; go_wp2_with fail; go_ret; exact ⟨by rw [HR.out]; simp, HB4.out⟩
 · have hn' : (n == 0) = false := by simpa using hn
   clear hn; go_enter Tryz.func101, Tryz.ntmps101; go_wp2_with fail; refine (HI.out _).mono ?_; rintro e wq ⟨rfl, hwq⟩; subst hwq; go_wp2_with fail; refine (HSh.out _).mono ?_; rintro e wq ⟨rfl, hwq⟩; subst hwq; go_wp2_with fail; go_ret; exact ⟨by rw [HR.out]; simp [*], HB1.out _⟩
theorem showInstr_any (x : Pp.XIns) (h1 : x.a.length <= maxLen) (h2 : x.b.length <= maxLen) (w : World) :
 Calls Tryz.prog 101 #[.agg #[.int .i64 x.op, .int .i64 x.n, .string ⟨x.a.toArray⟩, .string ⟨x.b.toArray⟩]] w fun e w' => e = .returned (.bool (Pp.insB x)) /\ Below w.heap.size w w' := by
 obtain ⟨op, n, a, b⟩ := x; simp only at h1 h2 ⊢; have hI := hide (fun w => ref_in_any op 0 43 w); have HB1 : Hid (∀ o, Below w.heap.size w (w.alloc o)) := hide fun o => (Below.refl _ _).alloc (Nat.le_refl _) o; by_cases hop : 0 <= op /\ op < 44
 · obtain ⟨k, rfl⟩ := Int.eq_ofNat_of_zero_le hop.1
   have hk : k < 44 := by omega
   have hw : Pp.withinB (k : Int) 0 43 = true := by simp [Pp.withinB]; omega
   rw [hw] at hI; have hSh := fun w => Shape_any k hk w
   have hR : Pp.insB ⟨(k : Int), n, a, b⟩ = (Pp.withinB n (Pp.argsX (k : Int)).2.1 (Pp.argsX (k : Int)).2.2.1 && (Pp.argB a (decide (1 <= (Pp.argsX (k : Int)).2.2.2)) && Pp.argB b (decide (2 <= (Pp.argsX (k : Int)).2.2.2)))) := by
    unfold Pp.insB; have : (decide (0 <= (k : Int)) && decide ((k : Int) < 44)) = true := by simp; omega
    simp only [this, Bool.true_and]
   rw [Pp.argsX_shape k hk] at hR; have hsl := Pp.shape_le k
   have hz : Pp.withinB n 0 0 = (n == 0) := by
    unfold Pp.withinB; by_cases h : n = 0
    · subst h; rfl
    · have e : (n == 0) = false := by simpa using h
      rw [e]; simp; omega
   rcases (show Pp.shape k = 0 \/ Pp.shape k = 1 \/ Pp.shape k = 2 \/ Pp.shape k = 3 \/ Pp.shape k = 4 \/ Pp.shape k = 5 by omega) with hs | hs | hs | hs | hs | hs
   · rw [hs] at hR hSh
     have e : Pp.insB ⟨(k : Int), n, a, b⟩ = (Pp.withinB n 0 0 && ((a == []) && (b == []))) := hR; rw [e, hz]; exact showInstr_0 k n a b h1 h2 hI.out hSh w
   · rw [hs] at hR hSh
     have e : Pp.insB ⟨(k : Int), n, a, b⟩ = (Pp.withinB n (-2147483648) 2147483647 && ((a == []) && (b == []))) := hR; rw [e]; exact showInstr_1 k n a b h1 h2 hI.out hSh w
   · rw [hs] at hR hSh
     have e : Pp.insB ⟨(k : Int), n, a, b⟩ = (Pp.withinB n 0 7 && ((a == []) && (b == []))) := hR; rw [e]; exact showInstr_2 k n a b h1 h2 hI.out hSh w
   · rw [hs] at hR hSh
     have e : Pp.insB ⟨(k : Int), n, a, b⟩ = (Pp.withinB n 0 47 && ((a == []) && (b == []))) := hR; rw [e]; exact showInstr_3 k n a b h1 h2 hI.out hSh w
   · rw [hs] at hR hSh
     have e : Pp.insB ⟨(k : Int), n, a, b⟩ = (Pp.withinB n 0 0 && (Pp.freshB a && (b == []))) := hR; rw [e, hz]; exact showInstr_4 k n a b h1 h2 hI.out hSh w
   · rw [hs] at hR hSh
     have e : Pp.insB ⟨(k : Int), n, a, b⟩ = (Pp.withinB n 0 0 && (Pp.freshB a && Pp.freshB b)) := hR; rw [e, hz]; exact showInstr_5 k n a b h1 h2 hI.out hSh w
 · have hR : Hid (Pp.insB ⟨op, n, a, b⟩ = false) := hide (by
    unfold Pp.insB; have : (decide (0 <= op) && decide (op < 44)) = false := by simp; omega
    rw [this]; rfl)
   have hw : Hid (Pp.withinB op 0 43 = false) := hide (by simp [Pp.withinB]; omega)
   rw [hw.out] at hI; rw [hR.out]; generalize (⟨a.toArray⟩ : ByteArray) = S1 at *
   generalize (⟨b.toArray⟩ : ByteArray) = S2 at *
   clear hop; go_enter Tryz.func101, Tryz.ntmps101; go_wp2_with fail; refine (hI.out _).mono ?_; rintro e wq ⟨rfl, hwq⟩; subst hwq; go_wp2_with fail; go_ret; exact ⟨rfl, HB1.out _⟩
namespace Sh
theorem mthB_all (m : Pp.XMth) : Pp.mthB m = true ↔ Pp.freshB m.name = true /\ m.params.length <= 4 /\ (∀ t ∈ m.params, Pp.typeB t = true) /\ Pp.typeB m.ret = true /\ m.code.length <= 48 /\ (∀ i ∈ m.code, Pp.insB i = true) /\ m.catches.length <= 4 /\ (∀ c ∈ m.catches, Pp.ctcB c = true) /\ Pp.withinB m.locals 0 8 = true /\ (m.abst = true -> m.locals = 0 /\ m.code = [] /\ m.catches = []) := by
 obtain ⟨n, st, ab, ps, rt, lo, co, ca⟩ := m; unfold Pp.mthB Pp.bodyB; simp only [Bool.and_eq_true, Pp.eachB_iff]; cases ab with
 | true =>
   simp only [if_true, Bool.and_eq_true, beq_iff_eq, List.isEmpty_iff, forall_const]; constructor
   · rintro ⟨h1, ⟨h2, h3⟩, h4, rfl, rfl, rfl⟩
     exact ⟨h1, h2, h3, h4, by simp, by simp, by simp, by simp, by decide, rfl, rfl, rfl⟩
   · rintro ⟨h1, h2, h3, h4, _, _, _, _, _, h5, h6, h7⟩
     exact ⟨h1, ⟨h2, h3⟩, h4, h5, h6, h7⟩
 | false =>
   simp only [Bool.false_eq_true, if_false, Bool.and_eq_true, Pp.eachB_iff, false_implies, and_true]; constructor
   · rintro ⟨h1, ⟨h2, h3⟩, h4, h5, ⟨h6, h7⟩, h8, h9⟩
     exact ⟨h1, h2, h3, h4, h6, h7, h8, h9, h5⟩
   · rintro ⟨h1, h2, h3, h4, h6, h7, h8, h9, h5⟩
     exact ⟨h1, ⟨h2, h3⟩, h4, h5, ⟨h6, h7⟩, h8, h9⟩
theorem row_at2 {α : Type} {W : World} {sz : Nat} {P : α -> List Value -> Prop} {a : Option Addr} {n c : Nat} {l : List α} (h : RowX W sz P (.slice a n c) l) {k : Nat} {x : α} (hx : l[k]? = some x) : ∃ b o, a = some ⟨b, o, none⟩ /\ ∃ ys, P x ys /\ ∀ wx, Below W.heap.size W wx -> ∀ (j : Nat) (u : Value), ys[j]? = some u -> wx.cell? ⟨b, o + k * sz + j, none⟩ = some u := by
 obtain ⟨a', c', e, hc, h⟩ := h; injection e with e1 e2 e3; subst e1
 rcases h with rfl | ⟨b, o, rfl, hlt, hr⟩
 · simp at hx
 · obtain ⟨ys, h1, h2⟩ := hr k x hx
   exact ⟨b, o, rfl, ys, h1, fun wx hb j u hj => (hb.cell (by exact hlt)).trans (h2 j u hj)⟩
theorem no_of {b : Bool} {P : Prop} (h : b = true ↔ P) (hp : ¬ P) : b = false := Bool.eq_false_iff.2 fun e => hp (h.1 e)
end Sh
theorem showMethod_any (m : Pp.XMth) (ys : List Value) (w : World) (h : MthX w m ys) :
 Calls Tryz.prog 85 #[.agg ys.toArray] w fun e w' => e = .returned (.bool (Pp.mthB m)) /\ Below w.heap.size w w' := by
 have HIF := hide (Sh.mthB_all m); obtain ⟨vp, vc, vk, rfl, x1, x2, x3, x4⟩ := h; obtain ⟨n, st, ab, ps, rt, lo, co, ca⟩ := m; simp only at x1 x2 x3 x4 HIF; obtain ⟨y1, y2, y3, y4, y5⟩ := x4; have hF := hide (fun w' => refFresh_any n y1 w'); have hT := hide (fun w' => TypeText_any rt y2 w'); have hW := hide (fun w' => ref_in_any lo 0 8 w'); have HP := hide x1; have HC := hide x2; have HK := hide x3; obtain ⟨pa, pc, rfl, _⟩ := x1.len; obtain ⟨cq, cc, rfl, _⟩ := x2.len; obtain ⟨kq, kc, rfl, _⟩ := x3.len; clear x1 x2 x3 y1 y2; simp only [mthXL, List.toArray]; obtain ⟨n3, hn3⟩ : ∃ k, k = ps.length := ⟨_, rfl⟩; obtain ⟨n1, hn1⟩ : ∃ k, k = co.length := ⟨_, rfl⟩; obtain ⟨n2, hn2⟩ : ∃ k, k = ca.length := ⟨_, rfl⟩; have HN3 := hide hn3; have HN1 := hide hn1; have HN2 := hide hn2; rw [<- hn3] at HP y3 ⊢; rw [<- hn1] at HC y4 ⊢; rw [<- hn2] at HK y5 ⊢; rw [<- hn3, <- hn1, <- hn2] at HIF; clear hn3 hn1 hn2; unfold maxLen at y3 y4 y5; generalize Pp.mthB ⟨n, st, ab, ps, rt, lo, co, ca⟩ = R at *
 have HTn : Hid ((⟨(Pp.typeT rt).toArray⟩ : ByteArray).toList.isEmpty = !Pp.typeB rt) := hide (by
  cases hb : Pp.typeB rt with
  | false => rw [Sh.typeT_no hb, ByteArray.toList_eq]; rfl
  | true => exact sh_nonempty _ (Sh.typeT_ne hb))
 generalize (⟨(Pp.typeT rt).toArray⟩ : ByteArray) = TS at *
 generalize (⟨n.toArray⟩ : ByteArray) = S0 at *
 generalize (⟨rt.name.toArray⟩ : ByteArray) = S1 at *
 generalize Pp.freshB n = b1 at *
 generalize Pp.typeB rt = b2 at *
 have HWB : Hid (Pp.withinB lo 0 8 = true -> 0 <= lo /\ lo <= 8) := hide (fun h => (Pp.withinB_iff _ _ _).1 h); generalize Pp.withinB lo 0 8 = b3 at *
 generalize rt.kind = rk at *
 have HB0 : Hid (Below w.heap.size w (w.alloc (.cells #[.string S0, .bool st, .bool ab, .slice pa n3 pc, .int .i64 rk, .string S1, .int .i64 lo, .slice cq n1 cc, .slice kq n2 kc] 39))) := hide ((Below.refl _ _).alloc (Nat.le_refl _) _)
 have HX : Hid (∀ wx, Below (w.alloc (.cells #[.string S0, .bool st, .bool ab, .slice pa n3 pc, .int .i64 rk, .string S1, .int .i64 lo, .slice cq n1 cc, .slice kq n2 kc] 39)).heap.size (w.alloc (.cells #[.string S0, .bool st, .bool ab, .slice pa n3 pc, .int .i64 rk, .string S1, .int .i64 lo, .slice cq n1 cc, .slice kq n2 kc] 39)) wx -> ∀ j, wx.cell? ⟨w.heap.size, j, none⟩ = #[Value.string S0, .bool st, .bool ab, .slice pa n3 pc, .int .i64 rk, .string S1, .int .i64 lo, .slice cq n1 cc, .slice kq n2 kc][j]?) := hide fun wx hb j => by
  have := hb.cell (p := ⟨w.heap.size, j, none⟩) (by show w.heap.size < _; simp)
  exact this.trans (cell_box (heap_alloc_new w _) j)
 go_enter Tryz.func85, Tryz.ntmps85; go_wp2_with fail; generalize w.alloc _ = w0 at *
 generalize w.heap.size = bm at HX ⊢; refine (hF.out _).mono ?_; rintro e w1 ⟨rfl, hb1⟩; have H1 := hide hb1; clear hb1 hF; cases b1 with
 | false =>
   have hRf := Sh.no_of HIF.out (fun h => by have := h.1; cases this)
   subst hRf; go_wp2_with fail; go_ret; exact ⟨rfl, (HB0.out.trans (H1.out.mono HB0.out.size))⟩
 | true =>
   have f2 : w1.cell? ⟨bm, 2, none⟩ = some (.bool ab) := HX.out w1 H1.out 2; have f3 : w1.cell? ⟨bm, 3, none⟩ = some (.slice pa n3 pc) := HX.out w1 H1.out 3; have f4 : w1.cell? ⟨bm, 4, none⟩ = some (.int .i64 rk) := HX.out w1 H1.out 4; have f5 : w1.cell? ⟨bm, 5, none⟩ = some (.string S1) := HX.out w1 H1.out 5; have f6 : w1.cell? ⟨bm, 6, none⟩ = some (.int .i64 lo) := HX.out w1 H1.out 6; have f7 : w1.cell? ⟨bm, 7, none⟩ = some (.slice cq n1 cc) := HX.out w1 H1.out 7; have f8 : w1.cell? ⟨bm, 8, none⟩ = some (.slice kq n2 kc) := HX.out w1 H1.out 8; by_cases e1 : 4 < n3
   · have e1' : (4 : Int) < (n3 : Int) := by omega
     have hRf := Sh.no_of HIF.out (fun h => by have := h.2.1; omega)
     subst hRf; go_wp2_with fail; go_ret; exact ⟨rfl, (HB0.out.trans (H1.out.mono HB0.out.size))⟩
   have e1' : ¬ (4 : Int) < (n3 : Int) := by omega
   go_wp2_with fail; refine (hT.out _).mono ?_; rintro e w2 ⟨rfl, hb2⟩; have H2 := hide (H1.out.trans (hb2.mono H1.out.size)); clear hb2 hT f2 f3 f4 f5 f6 f7 f8 H1; cases b2 with
   | false =>
     have hTe : TS.toList.isEmpty = true := HTn.out; have hRf := Sh.no_of HIF.out (fun h => by have := h.2.2.2.1; cases this)
     subst hRf; go_wp2_with fail; go_ret; exact ⟨rfl, (HB0.out.trans (H2.out.mono HB0.out.size))⟩
   | true =>
     have hTe : TS.toList.isEmpty = false := HTn.out; have f2 : w2.cell? ⟨bm, 2, none⟩ = some (.bool ab) := HX.out w2 H2.out 2; have f3 : w2.cell? ⟨bm, 3, none⟩ = some (.slice pa n3 pc) := HX.out w2 H2.out 3; have f6 : w2.cell? ⟨bm, 6, none⟩ = some (.int .i64 lo) := HX.out w2 H2.out 6; have f7 : w2.cell? ⟨bm, 7, none⟩ = some (.slice cq n1 cc) := HX.out w2 H2.out 7; have f8 : w2.cell? ⟨bm, 8, none⟩ = some (.slice kq n2 kc) := HX.out w2 H2.out 8; by_cases e2 : 48 < n1
     · have e2' : (48 : Int) < (n1 : Int) := by omega
       have hRf := Sh.no_of HIF.out (fun h => by have := h.2.2.2.2.1; omega)
       subst hRf; go_wp2_with fail; go_ret; exact ⟨rfl, (HB0.out.trans (H2.out.mono HB0.out.size))⟩
     have e2' : ¬ (48 : Int) < (n1 : Int) := by omega
     by_cases e3 : 4 < n2
     · have e3' : (4 : Int) < (n2 : Int) := by omega
       have hRf := Sh.no_of HIF.out (fun h => by have := h.2.2.2.2.2.2.1; omega)
       subst hRf; go_wp2_with fail; go_ret; exact ⟨rfl, (HB0.out.trans (H2.out.mono HB0.out.size))⟩
     have e3' : ¬ (4 : Int) < (n2 : Int) := by omega
     go_wp2_with fail; refine (hW.out _).mono ?_; rintro e wq ⟨rfl, hwq⟩; have hwq := hwq.symm; subst hwq; clear hW; cases b3 with
     | false =>
       have hRf := Sh.no_of HIF.out (fun h => by have := h.2.2.2.2.2.2.2.2.1; cases this)
       subst hRf; go_wp2_with fail; go_ret; exact ⟨rfl, (HB0.out.trans (H2.out.mono HB0.out.size))⟩
     | true =>
       have hlo : 0 <= lo /\ lo <= 8 := HWB.out (by first | exact rfl | trivial)
       cases ab with
       | false =>
         have HAB : Hid (false = true -> lo = 0 /\ co = [] /\ ca = []) := hide (fun h => by cases h)
         go_wp2_with fail; clear f2 f3 f6 f7 f8
         go_loopw [3] (fun i wr => ∃ k : Nat, k <= n3 /\ i = .int .i64 k /\ Below w2.heap.size w2 wr /\ Hid (∀ t ∈ ps.take k, Pp.typeB t = true)) (fun i _ => n3 - (intOf i).toNat)
         case atStart => exact ⟨0, Nat.zero_le _, rfl, Below.refl _ _, hide (by simp)⟩
         case round =>
          obtain ⟨kA, hkA, rfl, hbA, HAA⟩ := hrel; have HA := hide (H2.out.trans (hbA.mono H2.out.size)); have g3 : wr.cell? ⟨bm, 3, none⟩ = some (.slice pa n3 pc) := HX.out wr HA.out 3; by_cases hltA : kA < n3
          · obtain ⟨y, hy⟩ : ∃ y, ps[kA]? = some y := ⟨ps[kA]'(by rw [<- HN3.out]; exact hltA), List.getElem?_eq_getElem _⟩
            obtain ⟨gA, oA, rfl, ys, hys, hcell⟩ := Sh.row_at2 HP.out hy; have HY := hide hy; have hG := hide (hcell wr (HB0.out.trans (HA.out.mono HB0.out.size))); obtain rfl : ys = _ := hys.1; have z0 := hG.out 0 _ rfl; have z1 := hG.out 1 _ rfl; rw [Nat.add_zero] at z0; have hTy := hide (fun w' => TypeText_any y hys.2 w')
            have HTy : Hid ((⟨(Pp.typeT y).toArray⟩ : ByteArray).toList.isEmpty = !Pp.typeB y) := hide (by
             cases hb : Pp.typeB y with
             | false => rw [Sh.typeT_no hb, ByteArray.toList_eq]; rfl
             | true => exact sh_nonempty _ (Sh.typeT_ne hb))
            have hstep : Hid (Pp.typeB y = true -> ∀ t ∈ ps.take (kA + 1), Pp.typeB t = true) := hide (fun h => Pp.all_take HAA.out HY.out h); have hno : Hid (Pp.typeB y = false -> R = false) := hide (fun hb => Sh.no_of HIF.out (fun h => by have := h.2.2.1 y (List.mem_of_getElem? HY.out); rw [hb] at this; cases this))
            generalize (⟨(Pp.typeT y).toArray⟩ : ByteArray) = TY at *
            generalize (⟨y.name.toArray⟩ : ByteArray) = SY at *
            generalize y.kind = ky at *
            generalize Pp.typeB y = by_ at *
            clear hcell hys hy hG HY; have hltA' : (kA : Int) < (n3 : Int) := by omega
            go_wp2_with fail; refine (hTy.out _).mono ?_; rintro e w4 ⟨rfl, hb4⟩; have hb24 := hbA.trans (hb4.mono hbA.size); have H4 := hide (HA.out.trans (hb4.mono HA.out.size)); clear hb4 hTy z0 z1 g3; cases by_ with
            | false =>
              have hTe2 : TY.toList.isEmpty = true := HTy.out; have hRf := hno.out (by first | exact rfl | trivial)
              subst hRf; go_wp2_with fail; go_ret; exact ⟨rfl, (HB0.out.trans (H4.out.mono HB0.out.size))⟩
            | true =>
              have hTe2 : TY.toList.isEmpty = false := HTy.out; have HS := hide (hstep.out (by first | exact rfl | trivial))
              go_wp2_with fail
              go_roundw
              case rel => exact ⟨kA + 1, by omega, by go_num, hb24, HS⟩
              case measure => simp [intOf]; omega
          · have HEA := hide (Pp.all_end HAA.out (by rw [<- HN3.out]; omega))
            clear HAA; obtain ⟨wA, rfl⟩ : ∃ wA : World, wA = wr := ⟨_, rfl⟩; go_wp2_with fail; clear g3 hkA hltA hbA
            go_loopw [4] (fun i wr => ∃ k : Nat, k <= n1 /\ i = .int .i64 k /\ Below wA.heap.size wA wr /\ Hid (∀ t ∈ co.take k, Pp.insB t = true)) (fun i _ => n1 - (intOf i).toNat)
            case atStart => exact ⟨0, Nat.zero_le _, rfl, Below.refl _ _, hide (by simp)⟩
            case round =>
             obtain ⟨kB, hkB, rfl, hbB, HBB⟩ := hrel; have HB := hide (HA.out.trans (hbB.mono HA.out.size)); have g7 : wr.cell? ⟨bm, 7, none⟩ = some (.slice cq n1 cc) := HX.out wr HB.out 7; by_cases hltB : kB < n1
             · obtain ⟨y, hy⟩ : ∃ y, co[kB]? = some y := ⟨co[kB]'(by rw [<- HN1.out]; exact hltB), List.getElem?_eq_getElem _⟩
               obtain ⟨gB, oB, rfl, ys, hys, hcell⟩ := Sh.row_at2 HC.out hy; have HY := hide hy; have hG := hide (hcell wr (HB0.out.trans (HB.out.mono HB0.out.size))); obtain rfl : ys = _ := hys.1; have z0 := hG.out 0 _ rfl; have z1 := hG.out 1 _ rfl; have z2 := hG.out 2 _ rfl; have z3 := hG.out 3 _ rfl; rw [Nat.add_zero] at z0; have hIy := hide (fun w' => showInstr_any y hys.2.1 hys.2.2 w'); have hstep : Hid (Pp.insB y = true -> ∀ t ∈ co.take (kB + 1), Pp.insB t = true) := hide (fun h => Pp.all_take HBB.out HY.out h); have hno : Hid (Pp.insB y = false -> R = false) := hide (fun hb => Sh.no_of HIF.out (fun h => by have := h.2.2.2.2.2.1 y (List.mem_of_getElem? HY.out); rw [hb] at this; cases this))
               generalize y.op = q0 at *
               generalize y.n = q1 at *
               generalize (⟨y.a.toArray⟩ : ByteArray) = q2 at *
               generalize (⟨y.b.toArray⟩ : ByteArray) = q3 at *
               generalize Pp.insB y = by_ at *
               clear hcell hys hy hG HY; have hltB' : (kB : Int) < (n1 : Int) := by omega
               go_wp2_with fail; refine (hIy.out _).mono ?_; rintro e w4 ⟨rfl, hb4⟩; have hb24 := hbB.trans (hb4.mono hbB.size); have H4 := hide (HB.out.trans (hb4.mono HB.out.size)); clear hb4 hIy z0 z1 z2 z3 g7; cases by_ with
               | false =>
                 have hRf := hno.out (by first | exact rfl | trivial)
                 subst hRf; go_wp2_with fail; go_ret; exact ⟨rfl, (HB0.out.trans (H4.out.mono HB0.out.size))⟩
               | true =>
                 have HS := hide (hstep.out (by first | exact rfl | trivial))
                 go_wp2_with fail
                 go_roundw
                 case rel => exact ⟨kB + 1, by omega, by go_num, hb24, HS⟩
                 case measure => simp [intOf]; omega
             · have HEB := hide (Pp.all_end HBB.out (by rw [<- HN1.out]; omega))
               clear HBB; obtain ⟨wB, rfl⟩ : ∃ wB : World, wB = wr := ⟨_, rfl⟩; go_wp2_with fail; clear g7 hkB hltB hbB
               go_loopw [5] (fun i wr => ∃ k : Nat, k <= n2 /\ i = .int .i64 k /\ Below wB.heap.size wB wr /\ Hid (∀ t ∈ ca.take k, Pp.ctcB t = true)) (fun i _ => n2 - (intOf i).toNat)
               case atStart => exact ⟨0, Nat.zero_le _, rfl, Below.refl _ _, hide (by simp)⟩
               case round =>
                obtain ⟨kC, hkC, rfl, hbC, HCC⟩ := hrel; have HD := hide (HB.out.trans (hbC.mono HB.out.size)); have g8 : wr.cell? ⟨bm, 8, none⟩ = some (.slice kq n2 kc) := HX.out wr HD.out 8; by_cases hltC : kC < n2
                · obtain ⟨y, hy⟩ : ∃ y, ca[kC]? = some y := ⟨ca[kC]'(by rw [<- HN2.out]; exact hltC), List.getElem?_eq_getElem _⟩
                  obtain ⟨gC, oC, rfl, ys, hys, hcell⟩ := Sh.row_at2 HK.out hy; have HY := hide hy; have hG := hide (hcell wr (HB0.out.trans (HD.out.mono HB0.out.size))); obtain rfl : ys = _ := hys.1; have z0 := hG.out 0 _ rfl; have z1 := hG.out 1 _ rfl; have z2 := hG.out 2 _ rfl; have z3 := hG.out 3 _ rfl; rw [Nat.add_zero] at z0; have hFy := hide (fun w' => refFresh_any y.name hys.2 w'); have hW1 := hide (fun w' => ref_in_any y.lo 0 48 w'); have hW2 := hide (fun w' => ref_in_any y.hi 0 48 w'); have hW3 := hide (fun w' => ref_in_any y.pc 0 48 w'); have hcb : Hid (Pp.ctcB y = (Pp.freshB y.name && (Pp.withinB y.lo 0 48 && (Pp.withinB y.hi 0 48 && Pp.withinB y.pc 0 48)))) := rfl; have hstep : Hid (Pp.ctcB y = true -> ∀ t ∈ ca.take (kC + 1), Pp.ctcB t = true) := hide (fun h => Pp.all_take HCC.out HY.out h); have hno : Hid (Pp.ctcB y = false -> R = false) := hide (fun hb => Sh.no_of HIF.out (fun h => by have := h.2.2.2.2.2.2.2.1 y (List.mem_of_getElem? HY.out); rw [hb] at this; cases this))
                  generalize Pp.ctcB y = by_ at *
                  generalize Pp.freshB y.name = c1 at *
                  generalize Pp.withinB y.lo 0 48 = c2 at *
                  generalize Pp.withinB y.hi 0 48 = c3 at *
                  generalize Pp.withinB y.pc 0 48 = c4 at *
                  generalize (⟨y.name.toArray⟩ : ByteArray) = q0 at *
                  generalize y.lo = q1 at *
                  generalize y.hi = q2 at *
                  generalize y.pc = q3 at *
                  clear hcell hys hy hG HY; have hltC' : (kC : Int) < (n2 : Int) := by omega
                  go_wp2_with fail; refine (hFy.out _).mono ?_; rintro e w4 ⟨rfl, hb4⟩; obtain ⟨B4, HBx, hsz4⟩ := box_one hb4; have t1 : w4.cell? ⟨wr.heap.size, 1, none⟩ = some (.int .i64 q1) := B4 1; have t2 : w4.cell? ⟨wr.heap.size, 2, none⟩ = some (.int .i64 q2) := B4 2; have t3 : w4.cell? ⟨wr.heap.size, 3, none⟩ = some (.int .i64 q3) := B4 3; have hb24 := hbC.trans (HBx.mono hbC.size); have H4 := hide (HD.out.trans (HBx.mono HD.out.size)); clear hb4 hFy z0 z1 z2 z3 g8 B4 HBx; cases c1 with
                  | false =>
                    have hRf := hno.out hcb.out; subst hRf; go_wp2_with fail; go_ret; exact ⟨rfl, (HB0.out.trans (H4.out.mono HB0.out.size))⟩
                  | true =>
                    go_wp2_with fail; refine (hW1.out _).mono ?_; rintro e wq ⟨rfl, hwq⟩; subst hwq; cases c2 with
                    | false =>
                      have hRf := hno.out hcb.out; subst hRf; go_wp2_with fail; go_ret; exact ⟨rfl, (HB0.out.trans (H4.out.mono HB0.out.size))⟩
                    | true =>
                      go_wp2_with fail; refine (hW2.out _).mono ?_; rintro e wq ⟨rfl, hwq⟩; subst hwq; cases c3 with
                      | false =>
                        have hRf := hno.out hcb.out; subst hRf; go_wp2_with fail; go_ret; exact ⟨rfl, (HB0.out.trans (H4.out.mono HB0.out.size))⟩
                      | true =>
                        go_wp2_with fail; refine (hW3.out _).mono ?_; rintro e wq ⟨rfl, hwq⟩; subst hwq; cases c4 with
                        | false =>
                          have hRf := hno.out hcb.out; subst hRf; go_wp2_with fail; go_ret; exact ⟨rfl, (HB0.out.trans (H4.out.mono HB0.out.size))⟩
                        | true =>
                          have HS := hide (hstep.out hcb.out); go_wp2_with fail
                          go_roundw
                          case rel => exact ⟨kC + 1, by omega, by go_num, hb24, HS⟩
                          case measure => simp [intOf]; omega
                · have HEC := hide (Pp.all_end HCC.out (by rw [<- HN2.out]; omega))
                  have hRt := HIF.out.2 ⟨trivial, by omega, HEA.out, trivial, by omega, HEB.out, by omega, HEC.out, trivial, HAB.out⟩
                  subst hRt; go_wp2_with fail; go_ret; exact ⟨rfl, (HB0.out.trans (HD.out.mono HB0.out.size))⟩
       | true =>
         by_cases e5 : 0 < lo + (n1 : Int) + (n2 : Int)
         ·
          have hRf := Sh.no_of HIF.out (fun h => by
           have h5 := h.2.2.2.2.2.2.2.2.2 (by first | exact rfl | trivial)
           have h6 : n1 = 0 := by rw [HN1.out, h5.2.1]; rfl
           have h7 : n2 = 0 := by rw [HN2.out, h5.2.2]; rfl
           omega)
          subst hRf; go_wp2_with fail; go_ret; exact ⟨rfl, (HB0.out.trans (H2.out.mono HB0.out.size))⟩
         have HL1 := hide (List.length_eq_zero_iff.1 (HN1.out.symm.trans (by omega)))
         have HL2 := hide (List.length_eq_zero_iff.1 (HN2.out.symm.trans (by omega)))
         have HL3 : Hid (lo = 0) := hide (by omega)
         have HAB : Hid (true = true -> lo = 0 /\ co = [] /\ ca = []) := hide (fun _ => ⟨HL3.out, HL1.out, HL2.out⟩); go_wp2_with fail; clear f2 f3 f6 f7 f8
         go_loopw [3] (fun i wr => ∃ k : Nat, k <= n3 /\ i = .int .i64 k /\ Below w2.heap.size w2 wr /\ Hid (∀ t ∈ ps.take k, Pp.typeB t = true)) (fun i _ => n3 - (intOf i).toNat)
         case atStart => exact ⟨0, Nat.zero_le _, rfl, Below.refl _ _, hide (by simp)⟩
         case round =>
          obtain ⟨kA, hkA, rfl, hbA, HAA⟩ := hrel; have HA := hide (H2.out.trans (hbA.mono H2.out.size)); have g3 : wr.cell? ⟨bm, 3, none⟩ = some (.slice pa n3 pc) := HX.out wr HA.out 3; by_cases hltA : kA < n3
          · obtain ⟨y, hy⟩ : ∃ y, ps[kA]? = some y := ⟨ps[kA]'(by rw [<- HN3.out]; exact hltA), List.getElem?_eq_getElem _⟩
            obtain ⟨gA, oA, rfl, ys, hys, hcell⟩ := Sh.row_at2 HP.out hy; have HY := hide hy; have hG := hide (hcell wr (HB0.out.trans (HA.out.mono HB0.out.size))); obtain rfl : ys = _ := hys.1; have z0 := hG.out 0 _ rfl; have z1 := hG.out 1 _ rfl; rw [Nat.add_zero] at z0; have hTy := hide (fun w' => TypeText_any y hys.2 w')
            have HTy : Hid ((⟨(Pp.typeT y).toArray⟩ : ByteArray).toList.isEmpty = !Pp.typeB y) := hide (by
             cases hb : Pp.typeB y with
             | false => rw [Sh.typeT_no hb, ByteArray.toList_eq]; rfl
             | true => exact sh_nonempty _ (Sh.typeT_ne hb))
            have hstep : Hid (Pp.typeB y = true -> ∀ t ∈ ps.take (kA + 1), Pp.typeB t = true) := hide (fun h => Pp.all_take HAA.out HY.out h); have hno : Hid (Pp.typeB y = false -> R = false) := hide (fun hb => Sh.no_of HIF.out (fun h => by have := h.2.2.1 y (List.mem_of_getElem? HY.out); rw [hb] at this; cases this))
            generalize (⟨(Pp.typeT y).toArray⟩ : ByteArray) = TY at *
            generalize (⟨y.name.toArray⟩ : ByteArray) = SY at *
            generalize y.kind = ky at *
            generalize Pp.typeB y = by_ at *
            clear hcell hys hy hG HY; have hltA' : (kA : Int) < (n3 : Int) := by omega
            go_wp2_with fail; refine (hTy.out _).mono ?_; rintro e w4 ⟨rfl, hb4⟩; have hb24 := hbA.trans (hb4.mono hbA.size); have H4 := hide (HA.out.trans (hb4.mono HA.out.size)); clear hb4 hTy z0 z1 g3; cases by_ with
            | false =>
              have hTe2 : TY.toList.isEmpty = true := HTy.out; have hRf := hno.out (by first | exact rfl | trivial)
              subst hRf; go_wp2_with fail; go_ret; exact ⟨rfl, (HB0.out.trans (H4.out.mono HB0.out.size))⟩
            | true =>
              have hTe2 : TY.toList.isEmpty = false := HTy.out; have HS := hide (hstep.out (by first | exact rfl | trivial))
              go_wp2_with fail
              go_roundw
              case rel => exact ⟨kA + 1, by omega, by go_num, hb24, HS⟩
              case measure => simp [intOf]; omega
          · have HEA := hide (Pp.all_end HAA.out (by rw [<- HN3.out]; omega))
            clear HAA; obtain ⟨wA, rfl⟩ : ∃ wA : World, wA = wr := ⟨_, rfl⟩; go_wp2_with fail; clear g3 hkA hltA hbA
            go_loopw [4] (fun i wr => ∃ k : Nat, k <= n1 /\ i = .int .i64 k /\ Below wA.heap.size wA wr /\ Hid (∀ t ∈ co.take k, Pp.insB t = true)) (fun i _ => n1 - (intOf i).toNat)
            case atStart => exact ⟨0, Nat.zero_le _, rfl, Below.refl _ _, hide (by simp)⟩
            case round =>
             obtain ⟨kB, hkB, rfl, hbB, HBB⟩ := hrel; have HB := hide (HA.out.trans (hbB.mono HA.out.size)); have g7 : wr.cell? ⟨bm, 7, none⟩ = some (.slice cq n1 cc) := HX.out wr HB.out 7; by_cases hltB : kB < n1
             · exfalso; omega
             · have HEB := hide (Pp.all_end HBB.out (by rw [<- HN1.out]; omega))
               clear HBB; obtain ⟨wB, rfl⟩ : ∃ wB : World, wB = wr := ⟨_, rfl⟩; go_wp2_with fail; clear g7 hkB hltB hbB
               go_loopw [5] (fun i wr => ∃ k : Nat, k <= n2 /\ i = .int .i64 k /\ Below wB.heap.size wB wr /\ Hid (∀ t ∈ ca.take k, Pp.ctcB t = true)) (fun i _ => n2 - (intOf i).toNat)
               case atStart => exact ⟨0, Nat.zero_le _, rfl, Below.refl _ _, hide (by simp)⟩
               case round =>
                obtain ⟨kC, hkC, rfl, hbC, HCC⟩ := hrel; have HD := hide (HB.out.trans (hbC.mono HB.out.size)); have g8 : wr.cell? ⟨bm, 8, none⟩ = some (.slice kq n2 kc) := HX.out wr HD.out 8; by_cases hltC : kC < n2
                · exfalso; omega
                · have HEC := hide (Pp.all_end HCC.out (by rw [<- HN2.out]; omega))
                  have hRt := HIF.out.2 ⟨trivial, by omega, HEA.out, trivial, by omega, HEB.out, by omega, HEC.out, trivial, HAB.out⟩
                  subst hRt; go_wp2_with fail; go_ret; exact ⟨rfl, (HB0.out.trans (HD.out.mono HB0.out.size))⟩
end Go.Proofs.YtjlappamkfjlkaaGreatDoor

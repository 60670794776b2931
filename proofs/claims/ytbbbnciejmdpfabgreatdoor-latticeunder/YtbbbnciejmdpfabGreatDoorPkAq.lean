/- What the laws of this seat lean on: 2 texts. -/
import Derived.Test.YtbbbnciejmdpfabGreatDoorPkAp
set_option maxRecDepth 100000
set_option maxHeartbeats 64000000
set_option linter.unusedVariables false
set_option linter.unusedSimpArgs false
namespace Go.Proofs.YtbbbnciejmdpfabGreatDoor
open Go.RowKit
theorem argsOf_in (op : Int) (h0 : 0 <= op) (h1 : op < 44) (w : World) :
 Calls Tryz.prog 138 #[.int .i64 op] w fun e w' => e = .returned (.agg #[.bool (Pp.argsX op).1, .int .i64 (Pp.argsX op).2.1, .int .i64 (Pp.argsX op).2.2.1, .int .i64 (Pp.argsX op).2.2.2]) /\ Below w.heap.size w w' := by
 rcases (show op = 0 \/ op = 1 \/ op = 2 \/ op = 3 \/ op = 4 \/ op = 5 \/ op = 6 \/ op = 7 \/ op = 8 \/ op = 9 \/ op = 10 \/ op = 11 \/ op = 12 \/ op = 13 \/ op = 14 \/ op = 15 \/ op = 16 \/ op = 17 \/ op = 18 \/ op = 19 \/ op = 20 \/ op = 21 \/ op = 22 \/ op = 23 \/ op = 24 \/ op = 25 \/ op = 26 \/ op = 27 \/ op = 28 \/ op = 29 \/ op = 30 \/ op = 31 \/ op = 32 \/ op = 33 \/ op = 34 \/ op = 35 \/ op = 36 \/ op = 37 \/ op = 38 \/ op = 39 \/ op = 40 \/ op = 41 \/ op = 42 \/ op = 43 by omega) with rfl | rfl | rfl | rfl | rfl | rfl | rfl | rfl | rfl | rfl | rfl | rfl | rfl | rfl | rfl | rfl | rfl | rfl | rfl | rfl | rfl | rfl | rfl | rfl | rfl | rfl | rfl | rfl | rfl | rfl | rfl | rfl | rfl | rfl | rfl | rfl | rfl | rfl | rfl | rfl | rfl | rfl | rfl | rfl
 · go_enter Tryz.func138, Tryz.ntmps138
   go_wp2_with fail; exact bodyPost_ret (v := .agg #[.bool false, .int .i64 0, .int .i64 0, .int .i64 0]) (by simp [results, Tryz.results138, go_sem]) rfl ⟨rfl, (Below.refl _ _).alloc (Nat.le_refl _) _⟩
 · go_enter Tryz.func138, Tryz.ntmps138
   go_wp2_with fail; exact bodyPost_ret (v := .agg #[.bool true, .int .i64 (-2147483648), .int .i64 2147483647, .int .i64 0]) (by simp [results, Tryz.results138, go_sem]) rfl ⟨rfl, (Below.refl _ _).alloc (Nat.le_refl _) _⟩
 · go_enter Tryz.func138, Tryz.ntmps138
   go_wp2_with fail; exact bodyPost_ret (v := .agg #[.bool false, .int .i64 0, .int .i64 0, .int .i64 0]) (by simp [results, Tryz.results138, go_sem]) rfl ⟨rfl, (Below.refl _ _).alloc (Nat.le_refl _) _⟩
 · go_enter Tryz.func138, Tryz.ntmps138
   go_wp2_with fail; exact bodyPost_ret (v := .agg #[.bool true, .int .i64 0, .int .i64 7, .int .i64 0]) (by simp [results, Tryz.results138, go_sem]) rfl ⟨rfl, (Below.refl _ _).alloc (Nat.le_refl _) _⟩
 · go_enter Tryz.func138, Tryz.ntmps138
   go_wp2_with fail; exact bodyPost_ret (v := .agg #[.bool true, .int .i64 0, .int .i64 7, .int .i64 0]) (by simp [results, Tryz.results138, go_sem]) rfl ⟨rfl, (Below.refl _ _).alloc (Nat.le_refl _) _⟩
 · go_enter Tryz.func138, Tryz.ntmps138
   go_wp2_with fail; exact bodyPost_ret (v := .agg #[.bool false, .int .i64 0, .int .i64 0, .int .i64 0]) (by simp [results, Tryz.results138, go_sem]) rfl ⟨rfl, (Below.refl _ _).alloc (Nat.le_refl _) _⟩
 · go_enter Tryz.func138, Tryz.ntmps138
   go_wp2_with fail; exact bodyPost_ret (v := .agg #[.bool false, .int .i64 0, .int .i64 0, .int .i64 0]) (by simp [results, Tryz.results138, go_sem]) rfl ⟨rfl, (Below.refl _ _).alloc (Nat.le_refl _) _⟩
 · go_enter Tryz.func138, Tryz.ntmps138
   go_wp2_with fail; exact bodyPost_ret (v := .agg #[.bool false, .int .i64 0, .int .i64 0, .int .i64 0]) (by simp [results, Tryz.results138, go_sem]) rfl ⟨rfl, (Below.refl _ _).alloc (Nat.le_refl _) _⟩
 · go_enter Tryz.func138, Tryz.ntmps138
   go_wp2_with fail; exact bodyPost_ret (v := .agg #[.bool false, .int .i64 0, .int .i64 0, .int .i64 0]) (by simp [results, Tryz.results138, go_sem]) rfl ⟨rfl, (Below.refl _ _).alloc (Nat.le_refl _) _⟩
 · go_enter Tryz.func138, Tryz.ntmps138
   go_wp2_with fail; exact bodyPost_ret (v := .agg #[.bool false, .int .i64 0, .int .i64 0, .int .i64 0]) (by simp [results, Tryz.results138, go_sem]) rfl ⟨rfl, (Below.refl _ _).alloc (Nat.le_refl _) _⟩
 · go_enter Tryz.func138, Tryz.ntmps138
   go_wp2_with fail; exact bodyPost_ret (v := .agg #[.bool false, .int .i64 0, .int .i64 0, .int .i64 0]) (by simp [results, Tryz.results138, go_sem]) rfl ⟨rfl, (Below.refl _ _).alloc (Nat.le_refl _) _⟩
 · go_enter Tryz.func138, Tryz.ntmps138
   go_wp2_with fail; exact bodyPost_ret (v := .agg #[.bool false, .int .i64 0, .int .i64 0, .int .i64 0]) (by simp [results, Tryz.results138, go_sem]) rfl ⟨rfl, (Below.refl _ _).alloc (Nat.le_refl _) _⟩
 · go_enter Tryz.func138, Tryz.ntmps138
   go_wp2_with fail; exact bodyPost_ret (v := .agg #[.bool false, .int .i64 0, .int .i64 0, .int .i64 0]) (by simp [results, Tryz.results138, go_sem]) rfl ⟨rfl, (Below.refl _ _).alloc (Nat.le_refl _) _⟩
 · go_enter Tryz.func138, Tryz.ntmps138
   go_wp2_with fail; exact bodyPost_ret (v := .agg #[.bool false, .int .i64 0, .int .i64 0, .int .i64 0]) (by simp [results, Tryz.results138, go_sem]) rfl ⟨rfl, (Below.refl _ _).alloc (Nat.le_refl _) _⟩
 · go_enter Tryz.func138, Tryz.ntmps138
   go_wp2_with fail; exact bodyPost_ret (v := .agg #[.bool true, .int .i64 0, .int .i64 47, .int .i64 0]) (by simp [results, Tryz.results138, go_sem]) rfl ⟨rfl, (Below.refl _ _).alloc (Nat.le_refl _) _⟩
 · go_enter Tryz.func138, Tryz.ntmps138
   go_wp2_with fail; exact bodyPost_ret (v := .agg #[.bool true, .int .i64 0, .int .i64 47, .int .i64 0]) (by simp [results, Tryz.results138, go_sem]) rfl ⟨rfl, (Below.refl _ _).alloc (Nat.le_refl _) _⟩
 · go_enter Tryz.func138, Tryz.ntmps138
   go_wp2_with fail; exact bodyPost_ret (v := .agg #[.bool true, .int .i64 0, .int .i64 47, .int .i64 0]) (by simp [results, Tryz.results138, go_sem]) rfl ⟨rfl, (Below.refl _ _).alloc (Nat.le_refl _) _⟩
 · go_enter Tryz.func138, Tryz.ntmps138
   go_wp2_with fail; exact bodyPost_ret (v := .agg #[.bool true, .int .i64 0, .int .i64 47, .int .i64 0]) (by simp [results, Tryz.results138, go_sem]) rfl ⟨rfl, (Below.refl _ _).alloc (Nat.le_refl _) _⟩
 · go_enter Tryz.func138, Tryz.ntmps138
   go_wp2_with fail; exact bodyPost_ret (v := .agg #[.bool true, .int .i64 0, .int .i64 47, .int .i64 0]) (by simp [results, Tryz.results138, go_sem]) rfl ⟨rfl, (Below.refl _ _).alloc (Nat.le_refl _) _⟩
 · go_enter Tryz.func138, Tryz.ntmps138
   go_wp2_with fail; exact bodyPost_ret (v := .agg #[.bool true, .int .i64 0, .int .i64 47, .int .i64 0]) (by simp [results, Tryz.results138, go_sem]) rfl ⟨rfl, (Below.refl _ _).alloc (Nat.le_refl _) _⟩
 · go_enter Tryz.func138, Tryz.ntmps138
   go_wp2_with fail; exact bodyPost_ret (v := .agg #[.bool true, .int .i64 0, .int .i64 47, .int .i64 0]) (by simp [results, Tryz.results138, go_sem]) rfl ⟨rfl, (Below.refl _ _).alloc (Nat.le_refl _) _⟩
 · go_enter Tryz.func138, Tryz.ntmps138
   go_wp2_with fail; exact bodyPost_ret (v := .agg #[.bool true, .int .i64 0, .int .i64 47, .int .i64 0]) (by simp [results, Tryz.results138, go_sem]) rfl ⟨rfl, (Below.refl _ _).alloc (Nat.le_refl _) _⟩
 · go_enter Tryz.func138, Tryz.ntmps138
   go_wp2_with fail; exact bodyPost_ret (v := .agg #[.bool true, .int .i64 0, .int .i64 47, .int .i64 0]) (by simp [results, Tryz.results138, go_sem]) rfl ⟨rfl, (Below.refl _ _).alloc (Nat.le_refl _) _⟩
 · go_enter Tryz.func138, Tryz.ntmps138
   go_wp2_with fail; exact bodyPost_ret (v := .agg #[.bool true, .int .i64 0, .int .i64 47, .int .i64 0]) (by simp [results, Tryz.results138, go_sem]) rfl ⟨rfl, (Below.refl _ _).alloc (Nat.le_refl _) _⟩
 · go_enter Tryz.func138, Tryz.ntmps138
   go_wp2_with fail; exact bodyPost_ret (v := .agg #[.bool true, .int .i64 0, .int .i64 47, .int .i64 0]) (by simp [results, Tryz.results138, go_sem]) rfl ⟨rfl, (Below.refl _ _).alloc (Nat.le_refl _) _⟩
 · go_enter Tryz.func138, Tryz.ntmps138
   go_wp2_with fail; exact bodyPost_ret (v := .agg #[.bool true, .int .i64 0, .int .i64 47, .int .i64 0]) (by simp [results, Tryz.results138, go_sem]) rfl ⟨rfl, (Below.refl _ _).alloc (Nat.le_refl _) _⟩
 · go_enter Tryz.func138, Tryz.ntmps138
   go_wp2_with fail; exact bodyPost_ret (v := .agg #[.bool true, .int .i64 0, .int .i64 47, .int .i64 0]) (by simp [results, Tryz.results138, go_sem]) rfl ⟨rfl, (Below.refl _ _).alloc (Nat.le_refl _) _⟩
 · go_enter Tryz.func138, Tryz.ntmps138
   go_wp2_with fail; exact bodyPost_ret (v := .agg #[.bool false, .int .i64 0, .int .i64 0, .int .i64 1]) (by simp [results, Tryz.results138, go_sem]) rfl ⟨rfl, (Below.refl _ _).alloc (Nat.le_refl _) _⟩
 · go_enter Tryz.func138, Tryz.ntmps138
   go_wp2_with fail; exact bodyPost_ret (v := .agg #[.bool false, .int .i64 0, .int .i64 0, .int .i64 2]) (by simp [results, Tryz.results138, go_sem]) rfl ⟨rfl, (Below.refl _ _).alloc (Nat.le_refl _) _⟩
 · go_enter Tryz.func138, Tryz.ntmps138
   go_wp2_with fail; exact bodyPost_ret (v := .agg #[.bool false, .int .i64 0, .int .i64 0, .int .i64 2]) (by simp [results, Tryz.results138, go_sem]) rfl ⟨rfl, (Below.refl _ _).alloc (Nat.le_refl _) _⟩
 · go_enter Tryz.func138, Tryz.ntmps138
   go_wp2_with fail; exact bodyPost_ret (v := .agg #[.bool false, .int .i64 0, .int .i64 0, .int .i64 2]) (by simp [results, Tryz.results138, go_sem]) rfl ⟨rfl, (Below.refl _ _).alloc (Nat.le_refl _) _⟩
 · go_enter Tryz.func138, Tryz.ntmps138
   go_wp2_with fail; exact bodyPost_ret (v := .agg #[.bool false, .int .i64 0, .int .i64 0, .int .i64 2]) (by simp [results, Tryz.results138, go_sem]) rfl ⟨rfl, (Below.refl _ _).alloc (Nat.le_refl _) _⟩
 · go_enter Tryz.func138, Tryz.ntmps138
   go_wp2_with fail; exact bodyPost_ret (v := .agg #[.bool false, .int .i64 0, .int .i64 0, .int .i64 0]) (by simp [results, Tryz.results138, go_sem]) rfl ⟨rfl, (Below.refl _ _).alloc (Nat.le_refl _) _⟩
 · go_enter Tryz.func138, Tryz.ntmps138
   go_wp2_with fail; exact bodyPost_ret (v := .agg #[.bool false, .int .i64 0, .int .i64 0, .int .i64 1]) (by simp [results, Tryz.results138, go_sem]) rfl ⟨rfl, (Below.refl _ _).alloc (Nat.le_refl _) _⟩
 · go_enter Tryz.func138, Tryz.ntmps138
   go_wp2_with fail; exact bodyPost_ret (v := .agg #[.bool false, .int .i64 0, .int .i64 0, .int .i64 0]) (by simp [results, Tryz.results138, go_sem]) rfl ⟨rfl, (Below.refl _ _).alloc (Nat.le_refl _) _⟩
 · go_enter Tryz.func138, Tryz.ntmps138
   go_wp2_with fail; exact bodyPost_ret (v := .agg #[.bool false, .int .i64 0, .int .i64 0, .int .i64 0]) (by simp [results, Tryz.results138, go_sem]) rfl ⟨rfl, (Below.refl _ _).alloc (Nat.le_refl _) _⟩
 · go_enter Tryz.func138, Tryz.ntmps138
   go_wp2_with fail; exact bodyPost_ret (v := .agg #[.bool false, .int .i64 0, .int .i64 0, .int .i64 0]) (by simp [results, Tryz.results138, go_sem]) rfl ⟨rfl, (Below.refl _ _).alloc (Nat.le_refl _) _⟩
 · go_enter Tryz.func138, Tryz.ntmps138
   go_wp2_with fail; exact bodyPost_ret (v := .agg #[.bool false, .int .i64 0, .int .i64 0, .int .i64 1]) (by simp [results, Tryz.results138, go_sem]) rfl ⟨rfl, (Below.refl _ _).alloc (Nat.le_refl _) _⟩
 · go_enter Tryz.func138, Tryz.ntmps138
   go_wp2_with fail; exact bodyPost_ret (v := .agg #[.bool false, .int .i64 0, .int .i64 0, .int .i64 1]) (by simp [results, Tryz.results138, go_sem]) rfl ⟨rfl, (Below.refl _ _).alloc (Nat.le_refl _) _⟩
 · go_enter Tryz.func138, Tryz.ntmps138
   go_wp2_with fail; exact bodyPost_ret (v := .agg #[.bool false, .int .i64 0, .int .i64 0, .int .i64 2]) (by simp [results, Tryz.results138, go_sem]) rfl ⟨rfl, (Below.refl _ _).alloc (Nat.le_refl _) _⟩
 · go_enter Tryz.func138, Tryz.ntmps138
   go_wp2_with fail; exact bodyPost_ret (v := .agg #[.bool false, .int .i64 0, .int .i64 0, .int .i64 2]) (by simp [results, Tryz.results138, go_sem]) rfl ⟨rfl, (Below.refl _ _).alloc (Nat.le_refl _) _⟩
 · go_enter Tryz.func138, Tryz.ntmps138
   go_wp2_with fail; exact bodyPost_ret (v := .agg #[.bool false, .int .i64 0, .int .i64 0, .int .i64 0]) (by simp [results, Tryz.results138, go_sem]) rfl ⟨rfl, (Below.refl _ _).alloc (Nat.le_refl _) _⟩
 · go_enter Tryz.func138, Tryz.ntmps138
   go_wp2_with fail; exact bodyPost_ret (v := .agg #[.bool false, .int .i64 0, .int .i64 0, .int .i64 0]) (by simp [results, Tryz.results138, go_sem]) rfl ⟨rfl, (Below.refl _ _).alloc (Nat.le_refl _) _⟩
 · go_enter Tryz.func138, Tryz.ntmps138
   go_wp2_with fail; exact bodyPost_ret (v := .agg #[.bool false, .int .i64 0, .int .i64 0, .int .i64 0]) (by simp [results, Tryz.results138, go_sem]) rfl ⟨rfl, (Below.refl _ _).alloc (Nat.le_refl _) _⟩
theorem argsOf_out (op : Int) (h : op < 0 \/ 44 <= op) (w : World) :
 Calls Tryz.prog 138 #[.int .i64 op] w fun e w' => e = .returned (.agg #[.bool (Pp.argsX op).1, .int .i64 (Pp.argsX op).2.1, .int .i64 (Pp.argsX op).2.2.1, .int .i64 (Pp.argsX op).2.2.2]) /\ Below w.heap.size w w' := by
 have hX : Pp.argsX op = (false, 0, 0, 0) := by
  unfold Pp.argsX; rw [if_neg (by omega), if_neg (by omega), if_neg (by omega), if_neg (by omega), if_neg (by omega)]
 rw [hX]; clear hX; go_enter Tryz.func138, Tryz.ntmps138; go_wp2_with fail; exact bodyPost_ret (v := .agg #[.bool false, .int .i64 0, .int .i64 0, .int .i64 0]) (by simp [results, Tryz.results138, go_sem]) rfl ⟨rfl, (Below.refl _ _).alloc (Nat.le_refl _) _⟩
theorem isCatch_any (c : Pp.Ctc) (h1 : c.name.length <= maxLen) (w : World) (ht : TabS w) :
 Calls Tryz.prog 126 #[.agg #[.string ⟨c.name.toArray⟩, .int .i64 c.lo, .int .i64 c.hi, .int .i64 c.pc]] w fun e w' => e = .returned (.bool (Pp.ctcB c)) /\ Below w.heap.size w w' := by
 obtain ⟨n, lo, hi, pc⟩ := c; simp only at h1 ⊢; have hF := hide (fun w' (hb : Below w.heap.size w w') => fresh_any n h1 w' (ht.below hb)); clear ht h1; have hR : Hid (Pp.ctcB ⟨n, lo, hi, pc⟩ = (Pp.freshB n && (Pp.withinB lo 0 48 && (Pp.withinB hi 0 48 && Pp.withinB pc 0 48)))) := rfl; have hW := hide (fun (n lo hi : Int) w => within_any n lo hi w); generalize (⟨n.toArray⟩ : ByteArray) = S at *
 generalize Pp.freshB n = b0 at *
 generalize Pp.ctcB ⟨n, lo, hi, pc⟩ = R at *
 have W1 := hide (fun w => within_any lo 0 48 w); have W2 := hide (fun w => within_any hi 0 48 w); have W3 := hide (fun w => within_any pc 0 48 w); generalize Pp.withinB lo 0 48 = b1 at *
 generalize Pp.withinB hi 0 48 = b2 at *
 generalize Pp.withinB pc 0 48 = b3 at *
 clear hW; go_enter Tryz.func126, Tryz.ntmps126; go_wp2_with fail; refine (hF.out _ ((Below.refl _ _).alloc (Nat.le_refl _) _)).mono ?_; rintro e wq ⟨rfl, hwq⟩; subst hwq; clear hF; cases b0 with
 | false =>
   go_wp2_with fail; go_ret; exact ⟨by rw [hR.out]; rfl, (Below.refl _ _).alloc (Nat.le_refl _) _⟩
 | true =>
   go_wp2_with fail; refine (W1.out _).mono ?_; rintro e wq ⟨rfl, hwq⟩; subst hwq; cases b1 with
   | false =>
     go_wp2_with fail; go_ret; exact ⟨by rw [hR.out]; rfl, (Below.refl _ _).alloc (Nat.le_refl _) _⟩
   | true =>
     go_wp2_with fail; refine (W2.out _).mono ?_; rintro e wq ⟨rfl, hwq⟩; subst hwq; cases b2 with
     | false =>
       go_wp2_with fail; go_ret; exact ⟨by rw [hR.out]; rfl, (Below.refl _ _).alloc (Nat.le_refl _) _⟩
     | true =>
       go_wp2_with fail; refine (W3.out _).mono ?_; rintro e wq ⟨rfl, hwq⟩; subst hwq; go_wp2_with fail; go_ret; exact ⟨by rw [hR.out]; simp, (Below.refl _ _).alloc (Nat.le_refl _) _⟩
theorem argsOf_any (op : Int) (w : World) :
 Calls Tryz.prog 138 #[.int .i64 op] w fun e w' => e = .returned (.agg #[.bool (Pp.argsX op).1, .int .i64 (Pp.argsX op).2.1, .int .i64 (Pp.argsX op).2.2.1, .int .i64 (Pp.argsX op).2.2.2]) /\ Below w.heap.size w w' := by
 by_cases h : op < 0 \/ 44 <= op
 · exact argsOf_out op h w
 · exact argsOf_in op (by omega) (by omega) w
theorem sh_nonempty (l : List UInt8) (h : l ≠ []) : (⟨l.toArray⟩ : ByteArray).toList.isEmpty = false := by
 rw [ByteArray.toList_eq]; simpa using h
def wordL (op : Int) : List UInt8 := if 0 <= op /\ op < 44 then Pp.opWords.getD op.toNat [] else []
theorem wordL_ne : ∀ k : Nat, k < 44 -> Pp.opWords.getD k [] ≠ [] := by decide +kernel
theorem Word_any (op : Int) (w : World) (ht : TabS w) :
 Calls Tryz.prog 139 #[.int .i64 op] w fun e w' => e = .returned (.string ⟨(wordL op).toArray⟩) /\ w' = w := by
 by_cases h : 0 <= op /\ op < 44
 · obtain ⟨k, rfl⟩ := Int.eq_ofNat_of_zero_le h.1
   rw [wordL, if_pos h]; exact Word_in k (by omega) w ht
 · rw [wordL, if_neg h]
   exact Word_out op (by omega) w
theorem isInstr_any (x : Pp.XIns) (h1 : x.a.length <= maxLen) (h2 : x.b.length <= maxLen) (w : World) (ht : TabS w) :
 Calls Tryz.prog 124 #[.agg #[.int .i64 x.op, .int .i64 x.n, .string ⟨x.a.toArray⟩, .string ⟨x.b.toArray⟩]] w fun e w' => e = .returned (.bool (Pp.insB x)) /\ Below w.heap.size w w' := by
 obtain ⟨op, n, a, b⟩ := x; simp only at h1 h2 ⊢; have hO := hide (fun w => argsOf_any op w); have hR : Hid (Pp.insB ⟨op, n, a, b⟩ = ((decide (0 <= op) && decide (op < 44)) && (Pp.withinB n (Pp.argsX op).2.1 (Pp.argsX op).2.2.1 && (Pp.argB a (decide (1 <= (Pp.argsX op).2.2.2)) && Pp.argB b (decide (2 <= (Pp.argsX op).2.2.2)))))) := rfl; have hWd := hide (fun w' (hb : Below w.heap.size w w') => Word_any op w' (ht.below hb))
 have hE : Hid ((wordL op = []) ↔ (decide (0 <= op) && decide (op < 44)) = false) := by
  refine hide ?_; unfold wordL; by_cases h : 0 <= op /\ op < 44
  · rw [if_pos h]
    constructor
    · intro e; exact absurd e (wordL_ne _ (by omega))
    · intro e; simp at e; omega
  · rw [if_neg h]; simp; omega
 generalize Pp.argsX op = ax at *
 obtain ⟨q0, lo, hi, nn⟩ := ax; simp only at hO hR; have hA1 := hide (fun w' (hb : Below w.heap.size w w') => isArgument_any a (decide (1 <= nn)) h1 w' (ht.below hb)); have hA2 := hide (fun w' (hb : Below w.heap.size w w') => isArgument_any b (decide (2 <= nn)) h2 w' (ht.below hb)); have hW := hide (fun w => within_any n lo hi w); clear ht h1 h2; generalize hWL : wordL op = WL at *
 clear hWL; generalize Pp.insB ⟨op, n, a, b⟩ = R at *
 change Hid (R = (_ && (_ && ((if decide (1 <= nn) = true then Pp.freshB a else a == []) && (if decide (2 <= nn) = true then Pp.freshB b else b == []))))) at hR
 generalize (if decide (1 <= nn) = true then Pp.freshB a else a == []) = b1 at *
 generalize (if decide (2 <= nn) = true then Pp.freshB b else b == []) = b2 at *
 generalize Pp.withinB n lo hi = b0 at *
 generalize (decide (0 <= op) && decide (op < 44)) = bw at *
 generalize (⟨a.toArray⟩ : ByteArray) = S1 at *
 generalize (⟨b.toArray⟩ : ByteArray) = S2 at *
 go_enter Tryz.func124, Tryz.ntmps124; go_wp2_with fail; refine (hO.out _).mono ?_; rintro e w1 ⟨rfl, hb1⟩; obtain ⟨B1, HB, hsz⟩ := box_one hb1; have p0 : w1.cell? ⟨w.heap.size, 0, none⟩ = some (.int .i64 op) := B1 0; have p1 : w1.cell? ⟨w.heap.size, 1, none⟩ = some (.int .i64 n) := B1 1; have p2 : w1.cell? ⟨w.heap.size, 2, none⟩ = some (.string S1) := B1 2; have p3 : w1.cell? ⟨w.heap.size, 3, none⟩ = some (.string S2) := B1 3; have HB := hide HB; clear B1 hb1 hO; go_wp2_with fail; have HB2 := hide (fun (o : Obj) => HB.out.alloc (w := w1) HB.out.size o); clear HB; refine (hWd.out _ (HB2.out _)).mono ?_; rintro e wq ⟨rfl, hwq⟩; subst hwq; clear hWd; cases bw with
 | false =>
   have hWL : WL = [] := hE.out.2 rfl; subst hWL; go_wp2_with fail; go_ret; exact ⟨by rw [hR.out]; rfl, HB2.out _⟩
 | true =>
   have hWL : ¬ WL = [] := fun e => by have := hE.out.1 e; cases this
   have hne : (⟨WL.toArray⟩ : ByteArray).toList.isEmpty = false := sh_nonempty WL hWL; generalize (⟨WL.toArray⟩ : ByteArray) = SW at *
   clear hE hWL; go_wp2_with fail; refine (hW.out _).mono ?_; rintro e wq ⟨rfl, hwq⟩; subst hwq; clear hW; cases b0 with
   | false =>
     go_wp2_with fail; go_ret; exact ⟨by rw [hR.out]; rfl, HB2.out _⟩
   | true =>
     go_wp2_with fail; refine (hA1.out _ (HB2.out _)).mono ?_; rintro e wq ⟨rfl, hwq⟩; subst hwq; clear hA1; cases b1 with
     | false =>
       go_wp2_with fail; go_ret; exact ⟨by rw [hR.out]; rfl, HB2.out _⟩
     | true =>
       go_wp2_with fail; refine (hA2.out _ (HB2.out _)).mono ?_; rintro e wq ⟨rfl, hwq⟩; subst hwq; clear hA2; go_wp2_with fail; go_ret; exact ⟨by rw [hR.out]; simp, HB2.out _⟩
end Go.Proofs.YtbbbnciejmdpfabGreatDoor

/- What show's tests of names, types, fields, catches answer. -/
import Derived.Test.YtdgfidaopkcjoabDoorShowA
import Derived.Test.YtdgfidaopkcjoabDoorMemX
namespace Go.Proofs.YtdgfidaopkcjoabDoor
open Go.RowKit
set_option linter.unusedVariables false
set_option linter.unusedSimpArgs false

set_option maxHeartbeats 1000000 in
theorem fresh_any (s : List UInt8) (hs : s.length ≤ maxLen) (w : World) (ht : TabS w) :
    Calls Tryd.prog 32 #[.string ⟨s.toArray⟩] w fun e w' => e = .returned (.bool (Pp.freshB s)) ∧ w' = w := by
  have hN := hide (Name_any ⟨s.toArray⟩ (by simpa [ByteArray.size] using hs) w)
  have hK := hide (Kept_any s w ht)
  have hF : Hid (Pp.freshB s = (Lx.nameL s && !Pp.keptL s)) := rfl
  obtain ⟨b, hb⟩ : ∃ b, b = Lx.nameL s := ⟨_, rfl⟩
  have hN2 : Hid (Calls Tryd.prog 48 #[.string ⟨s.toArray⟩] w fun e w' => e = .returned (.bool b) ∧ w' = w) := by rw [hb]; exact hN
  rw [← hb] at hF
  generalize (⟨s.toArray⟩ : ByteArray) = S at *
  clear hN ht hb
  cases b with
  | false =>
    go_enter Tryd.func32, Tryd.ntmps32
    go_wp2_with fail
    refine hN2.out.mono ?_
    rintro e wq ⟨rfl, hwq⟩
    subst hwq
    go_wp2_with fail
    go_ret
    exact ⟨by rw [hF.out]; rfl, rfl⟩
  | true =>
    go_enter Tryd.func32, Tryd.ntmps32
    go_wp2_with fail
    refine hN2.out.mono ?_
    rintro e wq ⟨rfl, hwq⟩
    have hwq := hwq.symm
    subst hwq
    go_wp2_with fail
    refine hK.out.mono ?_
    rintro e wq ⟨rfl, hwq⟩
    have hwq := hwq.symm
    subst hwq
    go_wp2_with fail
    go_ret
    exact ⟨by rw [hF.out]; rfl, rfl⟩
set_option maxHeartbeats 1000000 in
theorem within_any (n lo hi : Int) (w : World) :
    Calls Tryd.prog 58 #[.int .i64 n, .int .i64 lo, .int .i64 hi] w fun e w' => e = .returned (.bool (Pp.withinB n lo hi)) ∧ w' = w := by
  go_enter Tryd.func58, Tryd.ntmps58
  by_cases h1 : lo ≤ n
  · go_wp2_with fail
    go_ret
    exact ⟨ret_bool (by simp [Pp.withinB, h1]), rfl⟩
  · go_wp2_with fail
    go_ret
    exact ⟨ret_bool (by simp [Pp.withinB]; omega), rfl⟩
set_option maxHeartbeats 1000000 in
theorem isArgument_any (s : List UInt8) (has : Bool) (hs : s.length ≤ maxLen) (w : World) (ht : TabS w) :
    Calls Tryd.prog 68 #[.string ⟨s.toArray⟩, .bool has] w fun e w' => e = .returned (.bool (if has = true then Pp.freshB s else s == [])) ∧ w' = w := by
  have hF := hide (fresh_any s hs w ht)
  clear ht
  cases has with
  | true =>
    go_enter Tryd.func68, Tryd.ntmps68
    go_wp2_with fail
    refine hF.out.mono ?_
    rintro e wq ⟨rfl, hwq⟩
    have hwq := hwq.symm
    subst hwq
    go_wp2_with fail
    go_ret
    exact ⟨rfl, rfl⟩
  | false =>
    go_enter Tryd.func68, Tryd.ntmps68
    go_wp2_with fail
    go_ret
    exact ⟨ret_bool (by cases s <;> simp), rfl⟩

set_option maxRecDepth 100000 in
set_option maxHeartbeats 2000000 in
theorem isType_any (t : Pp.Ty) (hs : t.name.length ≤ maxLen) (w : World) (ht : TabS w) :
    Calls Tryd.prog 24 #[.agg #[.int .i64 t.kind, .string ⟨t.name.toArray⟩]] w fun e w' => e = .returned (.bool (Pp.typeB t)) ∧ Below w.heap.size w w' := by
  obtain ⟨k, n⟩ := t
  simp only at hs ⊢
  have hF := hide (fun w' (hb : Below w.heap.size w w') => fresh_any n hs w' (ht.below hb))
  have hE : Hid (n = [] ↔ (⟨n.toArray⟩ : ByteArray) = ⟨#[]⟩) := hide ⟨fun h => by rw [h], fun h => by have := congrArg (fun x : ByteArray => x.data.toList) h; simpa using this⟩
  clear ht
  by_cases h1 : k = 1 ∨ k = 2 ∨ k = 4
  · have hT : Hid (Pp.typeB ⟨k, n⟩ = (n == [])) := hide (by unfold Pp.typeB; rw [if_pos h1])
    rcases h1 with rfl | rfl | rfl
    all_goals (go_enter Tryd.func24, Tryd.ntmps24; go_wp2_with fail; go_ret; exact ⟨ret_bool (by rw [hT.out]; cases n <;> simp), (Below.refl _ _).alloc (Nat.le_refl _) _⟩)
  · by_cases h2 : k = 3 ∨ k = 5
    · have hT : Hid (Pp.typeB ⟨k, n⟩ = Pp.freshB n) := hide (by unfold Pp.typeB; rw [if_neg h1, if_pos h2])
      rcases h2 with rfl | rfl
      all_goals (clear h1; go_enter Tryd.func24, Tryd.ntmps24; go_wp2_with fail; refine (hF.out _ ((Below.refl _ _).alloc (Nat.le_refl _) _)).mono ?_; rintro e wq ⟨rfl, hwq⟩; subst hwq; go_wp2_with fail; go_ret; exact ⟨by rw [hT.out]; rfl, (Below.refl _ _).alloc (Nat.le_refl _) _⟩)
    · have hT : Hid (Pp.typeB ⟨k, n⟩ = false) := hide (by unfold Pp.typeB; rw [if_neg h1, if_neg h2])
      have e1 : (k == 1) = false := by simp; omega
      have e2 : (k == 2) = false := by simp; omega
      have e3 : (k == 3) = false := by simp; omega
      have e4 : (k == 4) = false := by simp; omega
      have e5 : (k == 5) = false := by simp; omega
      clear h1 h2
      go_enter Tryd.func24, Tryd.ntmps24
      go_wp2_with fail
      go_ret
      exact ⟨by rw [hT.out]; rfl, (Below.refl _ _).alloc (Nat.le_refl _) _⟩
set_option maxRecDepth 100000 in
set_option maxHeartbeats 2000000 in
theorem isField_any (f : Pp.Fld) (h1 : f.name.length ≤ maxLen) (h2 : f.ty.name.length ≤ maxLen) (w : World) (ht : TabS w) :
    Calls Tryd.prog 36 #[.agg #[.string ⟨f.name.toArray⟩, .int .i64 f.ty.kind, .string ⟨f.ty.name.toArray⟩, .bool f.stat]] w fun e w' => e = .returned (.bool (Pp.freshB f.name && Pp.typeB f.ty)) ∧ Below w.heap.size w w' := by
  obtain ⟨n, ty, st⟩ := f
  simp only at h1 h2 ⊢
  have hF := hide (fun w' (hb : Below w.heap.size w w') => fresh_any n h1 w' (ht.below hb))
  have hT := hide (fun w' (hb : Below w.heap.size w w') => isType_any ty h2 w' (ht.below hb))
  clear ht h1 h2
  generalize (⟨n.toArray⟩ : ByteArray) = S at *
  generalize (⟨ty.name.toArray⟩ : ByteArray) = S2 at *
  generalize ty.kind = kd at *
  generalize Pp.typeB ty = b2 at *
  generalize Pp.freshB n = b1 at *
  cases b1 with
  | false =>
    go_enter Tryd.func36, Tryd.ntmps36
    go_wp2_with fail
    refine (hF.out _ ((Below.refl _ _).alloc (Nat.le_refl _) _)).mono ?_
    rintro e wq ⟨rfl, hwq⟩
    subst hwq
    go_wp2_with fail
    go_ret
    exact ⟨rfl, (Below.refl _ _).alloc (Nat.le_refl _) _⟩
  | true =>
    go_enter Tryd.func36, Tryd.ntmps36
    go_wp2_with fail
    refine (hF.out _ ((Below.refl _ _).alloc (Nat.le_refl _) _)).mono ?_
    rintro e wq ⟨rfl, hwq⟩
    subst hwq
    go_wp2_with fail
    refine (hT.out _ ((Below.refl _ _).alloc (Nat.le_refl _) _)).mono ?_
    rintro e w2 ⟨rfl, hb2⟩
    go_wp2_with fail
    go_ret
    exact ⟨by simp, ((Below.refl _ _).alloc (Nat.le_refl _) _).trans (hb2.mono (by simp))⟩

end Go.Proofs.YtdgfidaopkcjoabDoor

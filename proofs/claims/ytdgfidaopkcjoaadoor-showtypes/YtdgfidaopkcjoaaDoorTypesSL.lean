/- ShowTypes' walk. -/
import Derived.Test.YtdgfidaopkcjoaaDoorShowU
import Derived.Test.YtdgfidaopkcjoaaDoorRefNS
import Derived.Test.YtdgfidaopkcjoaaDoorRefKS
namespace Go.Proofs.YtdgfidaopkcjoaaDoor
open Go.RowKit
set_option linter.unusedVariables false
set_option linter.unusedSimpArgs false

theorem typeT_ref (k : Int) (n : List UInt8) (hk : k = 3) : Pp.typeB ⟨k, n⟩ = Pp.freshB n ∧ Pp.typeT ⟨k, n⟩ = if Pp.freshB n = true then n else [] := by
  subst hk
  have h : Pp.typeB ⟨3, n⟩ = Pp.freshB n := rfl
  refine ⟨h, ?_⟩
  unfold Pp.typeT
  rw [h]
  cases Pp.freshB n <;> simp [Pp.tyW, Sh.wtx_nm]
theorem typeT_row (k : Int) (n : List UInt8) (hk : k = 5) : Pp.typeB ⟨k, n⟩ = Pp.freshB n ∧ Pp.typeT ⟨k, n⟩ = if Pp.freshB n = true then n ++ [91, 93] else [] := by
  subst hk
  have h : Pp.typeB ⟨5, n⟩ = Pp.freshB n := rfl
  refine ⟨h, ?_⟩
  unfold Pp.typeT
  rw [h]
  cases Pp.freshB n <;> simp [Pp.tyW, Sh.wtx_nm, Sh.wtx_sg, Pp.wLK, Pp.wRK]
theorem typeB_kind (k : Int) : Pp.typeB ⟨k, []⟩ = (k == 2 || (k == 1 || k == 4)) := by
  unfold Pp.typeB
  simp only
  by_cases h : k = 1 ∨ k = 2 ∨ k = 4
  · rw [if_pos h]; rcases h with rfl | rfl | rfl <;> rfl
  · rw [if_neg h]
    have e1 : (k == 1) = false := by simp; omega
    have e2 : (k == 2) = false := by simp; omega
    have e4 : (k == 4) = false := by simp; omega
    rw [e1, e2, e4]
    split
    · rfl
    · rfl

set_option maxRecDepth 100000 in
set_option maxHeartbeats 8000000 in
theorem types_walk (s : ByteArray) (k : Int) (w : World) (ht : TabS w) (hp : Tab w) (hg : 3 < w.heap.size ∧ 2 < w.heap.size ∧ 0 < w.heap.size) :
    Calls Tryd.prog 6 #[.string s, .int .i64 k] w fun e w' => e = .returned (.bool true) ∧ Below w.heap.size w w' := by
  by_cases h60 : 60 < s.size
  · have h60' : (60 : Int) < (s.size : Int) := by omega
    go_enter Tryd.func6, Tryd.ntmps6
    go_wp2_with fail
    go_ret
    exact ⟨rfl, Below.refl _ _⟩
  have h60' : ¬ (60 : Int) < (s.size : Int) := by omega
  have HT : Hid (Sh.Tabs w.heap.size w) := hide ⟨ht, hp, hg⟩
  clear ht hp hg
  obtain ⟨n, rfl⟩ : ∃ n : List UInt8, s = ⟨n.toArray⟩ := ⟨s.data.toList, rfl⟩
  have hnl : n.length ≤ 60 := by simpa [ByteArray.size] using h60
  have hN : Hid (∀ w', Calls Tryd.prog 18 #[.string ⟨n.toArray⟩] w' fun e w'' => e = .returned (.bool (Lx.nameL n)) ∧ w'' = w') := hide fun w' => refName_any ⟨n.toArray⟩ (by simp [ByteArray.size]; unfold maxLen; omega) w'
  have hK := hide (fun w' => refKept_any n w')
  have hml : n.length ≤ maxLen := by unfold maxLen; omega
  have hT1 : Hid (∀ w', Below w.heap.size w w' → Calls Tryd.prog 10 #[.agg #[.int .i64 3, .string ⟨n.toArray⟩]] w' fun e w'' => e = .returned (.tuple #[.string ⟨(if Pp.freshB n = true then n else []).toArray⟩, .int .i64 (if Pp.freshB n = true then 0 else 4)]) ∧ Below w'.heap.size w' w'') := hide fun w' hb => by
    have h := Type_any ⟨3, n⟩ hml w' (HT.out.on hb).ws
    rw [(typeT_ref 3 n rfl).1, (typeT_ref 3 n rfl).2] at h; exact h
  have hT2 : Hid (∀ w', Below w.heap.size w w' → Calls Tryd.prog 10 #[.agg #[.int .i64 5, .string ⟨n.toArray⟩]] w' fun e w'' => e = .returned (.tuple #[.string ⟨(if Pp.freshB n = true then n ++ [91, 93] else []).toArray⟩, .int .i64 (if Pp.freshB n = true then 0 else 4)]) ∧ Below w'.heap.size w' w'') := hide fun w' hb => by
    have h := Type_any ⟨5, n⟩ hml w' (HT.out.on hb).ws
    rw [(typeT_row 5 n rfl).1, (typeT_row 5 n rfl).2] at h; exact h
  have hT3 : Hid (∀ w', Below w.heap.size w w' → Calls Tryd.prog 10 #[.agg #[.int .i64 4, .string ⟨#[]⟩]] w' fun e w'' => e = .returned (.tuple #[.string ⟨#[105, 110, 116, 91, 93]⟩, .int .i64 0]) ∧ Below w'.heap.size w' w'') := hide fun w' hb => by
    have h := Type_any ⟨4, []⟩ (by unfold maxLen; simp) w' (HT.out.on hb).ws
    have e1 : Pp.typeB ⟨4, []⟩ = true := by decide +kernel
    have e2 : Pp.typeT ⟨4, []⟩ = [105, 110, 116, 91, 93] := by decide +kernel
    rw [e1, e2] at h; exact h
  have hT4 : Hid (∀ w', Below w.heap.size w w' → Calls Tryd.prog 10 #[.agg #[.int .i64 2, .string ⟨#[65]⟩]] w' fun e w'' => e = .returned (.tuple #[.string ⟨#[]⟩, .int .i64 4]) ∧ Below w'.heap.size w' w'') := hide fun w' hb => by
    have h := Type_any ⟨2, [65]⟩ (by unfold maxLen; simp) w' (HT.out.on hb).ws
    have e1 : Pp.typeB ⟨2, [65]⟩ = false := by decide +kernel
    have e2 : Pp.typeT ⟨2, [65]⟩ = [] := by decide +kernel
    rw [e1, e2] at h; exact h
  have hT5 : Hid (∀ w', Below w.heap.size w w' → Calls Tryd.prog 10 #[.agg #[.int .i64 k, .string ⟨#[]⟩]] w' fun e w'' => (∃ x, e = .returned (.tuple #[.string x, .int .i64 (if (k == 2 || (k == 1 || k == 4)) = true then 0 else 4)])) ∧ Below w'.heap.size w' w'') := hide fun w' hb => by
    refine (Type_any ⟨k, []⟩ (by unfold maxLen; simp) w' (HT.out.on hb).ws).mono ?_
    rintro e w'' ⟨rfl, h2⟩
    rw [typeB_kind]
    exact ⟨⟨_, rfl⟩, h2⟩
  have hWk : Hid (∀ w', Below w.heap.size w w' → Calls Tryd.prog 15 #[] w' fun e w'' => e = .returned (.bool true) ∧ Below w'.heap.size w' w'') := hide fun w' hb => by
    have ht := HT.out.on hb
    exact wakes_any w' ht.ws ht.pw (by have := ht.hB; have := hb.size; omega)
  have hF : Hid (Pp.freshB n = (Lx.nameL n && !Pp.keptL n)) := rfl
  clear HT hml h60
  generalize Lx.nameL n = b1 at *
  generalize Pp.keptL n = b2 at *
  cases b1 with
  | false =>
    go_enter Tryd.func6, Tryd.ntmps6
    go_wp2_with fail
    refine (hN.out _).mono ?_
    rintro e wq ⟨rfl, hwq⟩
    have hwq := hwq.symm
    subst hwq
    have HBf : Hid (Below w.heap.size w w) := hide (Below.refl _ _)
    clear hN hK
    rw [hF.out] at hT1 hT2
    simp only [Bool.not_true, Bool.not_false, Bool.and_true, Bool.and_false, Bool.true_and, Bool.false_and, if_true, Bool.false_eq_true, if_false] at hT1 hT2
    go_wp2_with fail
    refine (hT1.out _ HBf.out).mono ?_
    rintro e wa ⟨rfl, hx⟩
    have HBa := hide (HBf.out.trans (hx.mono HBf.out.size))
    clear hx HBf hT1
    go_wp2_with fail
    refine (hT2.out _ HBa.out).mono ?_
    rintro e wb ⟨rfl, hx⟩
    have HBb := hide (HBa.out.trans (hx.mono HBa.out.size))
    clear hx HBa hT2
    go_wp2_with fail
    refine (hT3.out _ HBb.out).mono ?_
    rintro e wc ⟨rfl, hx⟩
    have HBc := hide (HBb.out.trans (hx.mono HBb.out.size))
    clear hx HBb hT3
    go_wp2_with fail
    refine (hT4.out _ HBc.out).mono ?_
    rintro e wd ⟨rfl, hx⟩
    have HBd := hide (HBc.out.trans (hx.mono HBc.out.size))
    clear hx HBc hT4
    have hee : ((⟨#[]⟩ : ByteArray) ++ ⟨#[]⟩).toList.isEmpty = true := by rw [ByteArray.toList_eq]; rfl
    go_wp2_with fail
    refine (hT5.out _ HBd.out).mono ?_
    rintro e w5 ⟨⟨x, rfl⟩, hx⟩
    have HB5 := hide (HBd.out.trans (hx.mono HBd.out.size))
    clear hx HBd hT5
    rcases (show k = 2 ∨ k = 1 ∨ k = 4 ∨ (¬ k = 2 ∧ ¬ k = 1 ∧ ¬ k = 4) by omega) with hk | hk | hk | ⟨hk2, hk1, hk4⟩
    · subst hk
      go_wp2_with fail
      refine (hWk.out _ HB5.out).mono ?_
      rintro e w6 ⟨rfl, hx⟩
      have HB6 := hide (HB5.out.trans (hx.mono HB5.out.size))
      clear hx
      go_wp2_with fail
      go_ret
      exact ⟨rfl, HB6.out⟩
    · subst hk
      go_wp2_with fail
      refine (hWk.out _ HB5.out).mono ?_
      rintro e w6 ⟨rfl, hx⟩
      have HB6 := hide (HB5.out.trans (hx.mono HB5.out.size))
      clear hx
      go_wp2_with fail
      go_ret
      exact ⟨rfl, HB6.out⟩
    · subst hk
      go_wp2_with fail
      refine (hWk.out _ HB5.out).mono ?_
      rintro e w6 ⟨rfl, hx⟩
      have HB6 := hide (HB5.out.trans (hx.mono HB5.out.size))
      clear hx
      go_wp2_with fail
      go_ret
      exact ⟨rfl, HB6.out⟩
    · have e2 : (k == 2) = false := by simpa using hk2
      have e1 : (k == 1) = false := by simpa using hk1
      have e4 : (k == 4) = false := by simpa using hk4
      rw [e2, e1, e4]
      go_wp2_with fail
      refine (hWk.out _ HB5.out).mono ?_
      rintro e w6 ⟨rfl, hx⟩
      have HB6 := hide (HB5.out.trans (hx.mono HB5.out.size))
      clear hx
      go_wp2_with fail
      go_ret
      exact ⟨rfl, HB6.out⟩
  | true =>
    cases b2 with
    | true =>
      go_enter Tryd.func6, Tryd.ntmps6
      go_wp2_with fail
      refine (hN.out _).mono ?_
      rintro e wq ⟨rfl, hwq⟩
      have hwq := hwq.symm
      subst hwq
      go_wp2_with fail
      refine (hK.out _).mono ?_
      rintro e wf ⟨rfl, hx⟩
      have HBf := hide hx
      clear hx hN hK
      rw [hF.out] at hT1 hT2
      simp only [Bool.not_true, Bool.not_false, Bool.and_true, Bool.and_false, Bool.true_and, Bool.false_and, if_true, Bool.false_eq_true, if_false] at hT1 hT2
      go_wp2_with fail
      refine (hT1.out _ HBf.out).mono ?_
      rintro e wa ⟨rfl, hx⟩
      have HBa := hide (HBf.out.trans (hx.mono HBf.out.size))
      clear hx HBf hT1
      go_wp2_with fail
      refine (hT2.out _ HBa.out).mono ?_
      rintro e wb ⟨rfl, hx⟩
      have HBb := hide (HBa.out.trans (hx.mono HBa.out.size))
      clear hx HBa hT2
      go_wp2_with fail
      refine (hT3.out _ HBb.out).mono ?_
      rintro e wc ⟨rfl, hx⟩
      have HBc := hide (HBb.out.trans (hx.mono HBb.out.size))
      clear hx HBb hT3
      go_wp2_with fail
      refine (hT4.out _ HBc.out).mono ?_
      rintro e wd ⟨rfl, hx⟩
      have HBd := hide (HBc.out.trans (hx.mono HBc.out.size))
      clear hx HBc hT4
      have hee : ((⟨#[]⟩ : ByteArray) ++ ⟨#[]⟩).toList.isEmpty = true := by rw [ByteArray.toList_eq]; rfl
      go_wp2_with fail
      refine (hT5.out _ HBd.out).mono ?_
      rintro e w5 ⟨⟨x, rfl⟩, hx⟩
      have HB5 := hide (HBd.out.trans (hx.mono HBd.out.size))
      clear hx HBd hT5
      rcases (show k = 2 ∨ k = 1 ∨ k = 4 ∨ (¬ k = 2 ∧ ¬ k = 1 ∧ ¬ k = 4) by omega) with hk | hk | hk | ⟨hk2, hk1, hk4⟩
      · subst hk
        go_wp2_with fail
        refine (hWk.out _ HB5.out).mono ?_
        rintro e w6 ⟨rfl, hx⟩
        have HB6 := hide (HB5.out.trans (hx.mono HB5.out.size))
        clear hx
        go_wp2_with fail
        go_ret
        exact ⟨rfl, HB6.out⟩
      · subst hk
        go_wp2_with fail
        refine (hWk.out _ HB5.out).mono ?_
        rintro e w6 ⟨rfl, hx⟩
        have HB6 := hide (HB5.out.trans (hx.mono HB5.out.size))
        clear hx
        go_wp2_with fail
        go_ret
        exact ⟨rfl, HB6.out⟩
      · subst hk
        go_wp2_with fail
        refine (hWk.out _ HB5.out).mono ?_
        rintro e w6 ⟨rfl, hx⟩
        have HB6 := hide (HB5.out.trans (hx.mono HB5.out.size))
        clear hx
        go_wp2_with fail
        go_ret
        exact ⟨rfl, HB6.out⟩
      · have e2 : (k == 2) = false := by simpa using hk2
        have e1 : (k == 1) = false := by simpa using hk1
        have e4 : (k == 4) = false := by simpa using hk4
        rw [e2, e1, e4]
        go_wp2_with fail
        refine (hWk.out _ HB5.out).mono ?_
        rintro e w6 ⟨rfl, hx⟩
        have HB6 := hide (HB5.out.trans (hx.mono HB5.out.size))
        clear hx
        go_wp2_with fail
        go_ret
        exact ⟨rfl, HB6.out⟩
    | false =>
      go_enter Tryd.func6, Tryd.ntmps6
      go_wp2_with fail
      refine (hN.out _).mono ?_
      rintro e wq ⟨rfl, hwq⟩
      have hwq := hwq.symm
      subst hwq
      go_wp2_with fail
      refine (hK.out _).mono ?_
      rintro e wf ⟨rfl, hx⟩
      have HBf := hide hx
      clear hx hN hK
      rw [hF.out] at hT1 hT2
      simp only [Bool.not_true, Bool.not_false, Bool.and_true, Bool.and_false, Bool.true_and, Bool.false_and, if_true, Bool.false_eq_true, if_false] at hT1 hT2
      go_wp2_with fail
      refine (hT1.out _ HBf.out).mono ?_
      rintro e wa ⟨rfl, hx⟩
      have HBa := hide (HBf.out.trans (hx.mono HBf.out.size))
      clear hx HBf hT1
      go_wp2_with fail
      refine (hT2.out _ HBa.out).mono ?_
      rintro e wb ⟨rfl, hx⟩
      have HBb := hide (HBa.out.trans (hx.mono HBa.out.size))
      clear hx HBa hT2
      go_wp2_with fail
      refine (hT3.out _ HBb.out).mono ?_
      rintro e wc ⟨rfl, hx⟩
      have HBc := hide (HBb.out.trans (hx.mono HBb.out.size))
      clear hx HBb hT3
      go_wp2_with fail
      refine (hT4.out _ HBc.out).mono ?_
      rintro e wd ⟨rfl, hx⟩
      have HBd := hide (HBc.out.trans (hx.mono HBc.out.size))
      clear hx HBc hT4
      have hap : (⟨n.toArray⟩ : ByteArray) ++ ⟨#[91, 93]⟩ = ⟨(n ++ [91, 93]).toArray⟩ := by apply ByteArray.ext; simp
      go_wp2_with fail
      refine (hT5.out _ HBd.out).mono ?_
      rintro e w5 ⟨⟨x, rfl⟩, hx⟩
      have HB5 := hide (HBd.out.trans (hx.mono HBd.out.size))
      clear hx HBd hT5
      rcases (show k = 2 ∨ k = 1 ∨ k = 4 ∨ (¬ k = 2 ∧ ¬ k = 1 ∧ ¬ k = 4) by omega) with hk | hk | hk | ⟨hk2, hk1, hk4⟩
      · subst hk
        go_wp2_with fail
        refine (hWk.out _ HB5.out).mono ?_
        rintro e w6 ⟨rfl, hx⟩
        have HB6 := hide (HB5.out.trans (hx.mono HB5.out.size))
        clear hx
        go_wp2_with fail
        go_ret
        exact ⟨rfl, HB6.out⟩
      · subst hk
        go_wp2_with fail
        refine (hWk.out _ HB5.out).mono ?_
        rintro e w6 ⟨rfl, hx⟩
        have HB6 := hide (HB5.out.trans (hx.mono HB5.out.size))
        clear hx
        go_wp2_with fail
        go_ret
        exact ⟨rfl, HB6.out⟩
      · subst hk
        go_wp2_with fail
        refine (hWk.out _ HB5.out).mono ?_
        rintro e w6 ⟨rfl, hx⟩
        have HB6 := hide (HB5.out.trans (hx.mono HB5.out.size))
        clear hx
        go_wp2_with fail
        go_ret
        exact ⟨rfl, HB6.out⟩
      · have e2 : (k == 2) = false := by simpa using hk2
        have e1 : (k == 1) = false := by simpa using hk1
        have e4 : (k == 4) = false := by simpa using hk4
        rw [e2, e1, e4]
        go_wp2_with fail
        refine (hWk.out _ HB5.out).mono ?_
        rintro e w6 ⟨rfl, hx⟩
        have HB6 := hide (HB5.out.trans (hx.mono HB5.out.size))
        clear hx
        go_wp2_with fail
        go_ret
        exact ⟨rfl, HB6.out⟩

end Go.Proofs.YtdgfidaopkcjoaaDoor

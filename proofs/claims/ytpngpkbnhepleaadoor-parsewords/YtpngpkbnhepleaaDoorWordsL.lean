/- ParseWords: the walk. -/
import Derived.Test.YtpngpkbnhepleaaDoorWakes2
namespace Go.Proofs.YtpngpkbnhepleaaDoor
open Go.RowKit
set_option linter.unusedVariables false
set_option linter.unusedSimpArgs false

namespace Pp
theorem words_all : ∀ k, k < 44 → opL (opWords.getD k []) = some k ∧ Lx.nameL (opWords.getD k []) = true ∧ keptL (opWords.getD k []) = false ∧ (opWords.getD k []).length ≤ 100 := by decide +kernel
theorem words_two : ∀ k, k < 44 → ∀ m, m < 44 → (opWords.getD k [] == opWords.getD m []) = decide (k = m) := by decide +kernel
end Pp

theorem mod_range (n : Int) (c : Nat) (hc : 0 < c) (hc2 : c ≤ 1000) : ∃ m : Nat, m < c ∧ wrap64 ((IntKind.u64.wrap n).tmod (c : Int)) = (m : Int) := by
  have h0 : 0 ≤ IntKind.u64.wrap n := by
    rw [IntKind.wrap_u64]; omega
  generalize IntKind.u64.wrap n = u at h0
  have h1 : 0 ≤ u.tmod (c : Int) := Int.tmod_nonneg _ h0
  have h2 : u.tmod (c : Int) < (c : Int) := Int.tmod_lt_of_pos _ (by omega)
  generalize u.tmod (c : Int) = r at h1 h2
  refine ⟨r.toNat, by omega, ?_⟩
  unfold wrap64; omega

set_option maxRecDepth 100000 in
set_option maxHeartbeats 4000000 in
theorem words_walk (a0 a1 : Int) (w : World) (ht : TabS w) :
    Calls Tryd.prog 5 #[.int .i64 a0, .int .i64 a1] w fun e w' => e = .returned (.bool true) ∧ Below w.heap.size w w' := by
  obtain ⟨k, hk, ek⟩ := mod_range a0 44 (by decide) (by decide)
  obtain ⟨m, hm, em⟩ := mod_range a1 44 (by decide) (by decide)
  obtain ⟨p1, p2, p3, p4⟩ := Pp.words_all k hk
  have p5 := Pp.words_two k hk m hm
  have hW := hide (Word_in k hk w ht)
  have hM := hide (Word_in m hm w ht)
  obtain ⟨t, htt⟩ : ∃ t, t = Pp.opWords.getD k [] := ⟨_, rfl⟩
  obtain ⟨u, huu⟩ : ∃ u, u = Pp.opWords.getD m [] := ⟨_, rfl⟩
  rw [← htt] at p1 p2 p3 p4 p5 hW
  rw [← huu] at p5 hM
  have hO := hide (Op_any t w ht)
  rw [opN, p1] at hO
  have hN := hide (Name_any ⟨t.toArray⟩ (by unfold maxLen; simp [ByteArray.size]; omega) w)
  rw [show (⟨t.toArray⟩ : ByteArray).data.toList = t from rfl, p2] at hN
  have hK := hide (Kept_any t w ht)
  rw [p3] at hK
  have hA := hide (Word_out (-1) (by omega) w)
  have hZ := hide (Word_out 44 (by omega) w)
  have hX := hide (wakes_any w ht)
  have hq : ((t == u) == decide (k = m)) = true := by rw [p5]; simp
  have hk2 : (k : Int) < 44 := by omega
  have hm2 : (m : Int) < 44 := by omega
  have ek' : wrap64 ((IntKind.u64.wrap a0).tmod 44) = (k : Int) := ek
  have em' : wrap64 ((IntKind.u64.wrap a1).tmod 44) = (m : Int) := em
  have HQ := hide hq
  have HP5 := hide p5
  clear htt huu p1 p2 p3 p4 p5 ht ek em hq
  go_enter Tryd.func5, Tryd.ntmps5
  go_wp2_with fail
  refine hW.out.mono ?_
  rintro e w1 ⟨rfl, hw1⟩
  have hw1 := hw1.symm
  subst hw1
  go_wp2_with fail
  refine hO.out.mono ?_
  rintro e w1 ⟨rfl, hw1⟩
  have hw1 := hw1.symm
  subst hw1
  go_wp2_with fail
  refine hN.out.mono ?_
  rintro e w1 ⟨rfl, hw1⟩
  have hw1 := hw1.symm
  subst hw1
  go_wp2_with fail
  refine hK.out.mono ?_
  rintro e w1 ⟨rfl, hw1⟩
  have hw1 := hw1.symm
  subst hw1
  go_wp2_with fail
  refine hM.out.mono ?_
  rintro e w1 ⟨rfl, hw1⟩
  have hw1 := hw1.symm
  subst hw1
  by_cases hkm : k = m
  · subst hkm
    have htu : (t == u) = true := by rw [HP5.out]; simp
    go_wp2_with fail
    refine hA.out.mono ?_
    rintro e w1 ⟨rfl, hw1⟩
    have hw1 := hw1.symm
    subst hw1
    go_wp2_with fail
    refine hZ.out.mono ?_
    rintro e w1 ⟨rfl, hw1⟩
    have hw1 := hw1.symm
    subst hw1
    go_wp2_with fail
    refine hX.out.mono ?_
    rintro e w1 ⟨rfl, hb1⟩
    go_wp2_with fail
    go_ret
    exact ⟨rfl, hb1⟩
  · have htu : (t == u) = false := by rw [HP5.out]; simp [hkm]
    have hkz : ¬ (k : Int) = (m : Int) := by omega
    have hkz2 : ((k : Int) == (m : Int)) = false := by simp [hkz]
    go_wp2_with fail
    refine hA.out.mono ?_
    rintro e w1 ⟨rfl, hw1⟩
    have hw1 := hw1.symm
    subst hw1
    go_wp2_with fail
    refine hZ.out.mono ?_
    rintro e w1 ⟨rfl, hw1⟩
    have hw1 := hw1.symm
    subst hw1
    go_wp2_with fail
    refine hX.out.mono ?_
    rintro e w1 ⟨rfl, hb1⟩
    go_wp2_with fail
    go_ret
    exact ⟨rfl, hb1⟩
end Go.Proofs.YtpngpkbnhepleaaDoor

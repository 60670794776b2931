/- The two tables of words: Kept, Op, Word. -/
import Derived.Test.YtdgfidaopkcjoaaGreatDoorRd
namespace Go.Proofs.YtdgfidaopkcjoaaGreatDoor
open Go.RowKit
set_option linter.unusedVariables false
set_option linter.unusedSimpArgs false

theorem hide {p : Prop} (h : p) : Hid p := h
namespace Pp
theorem any_step (K : List Bs) (s t : Bs) (k : Nat) (hk : k < K.length) (ht : t = K.getD k []) (hs : ¬ t = s) (h : (K.take k).any (· == s) = false) : (K.take (k + 1)).any (· == s) = false := by
  have e : K[k] = t := by rw [ht]; simp [List.getD, hk]
  rw [List.take_succ_eq_append_getElem hk, List.any_append, h, e]
  simp [hs]
theorem any_at (K : List Bs) (s t : Bs) (k : Nat) (hk : k < K.length) (ht : t = K.getD k []) (hs : t = s) : K.any (· == s) = true := by
  rw [List.any_eq_true]
  exact ⟨K[k], List.getElem_mem hk, by rw [← hs, ht]; simp [List.getD, hk]⟩
theorem any_end (K : List Bs) (s : Bs) (k : Nat) (hk : ¬ k < K.length) (h : (K.take k).any (· == s) = false) : K.any (· == s) = false := by
  rw [List.take_of_length_le (by omega)] at h; exact h
theorem find_at (K : List Bs) (s t : Bs) (k : Nat) (hk : k < K.length) (ht : t = K.getD k []) (hs : t = s) (h : (K.take k).any (· == s) = false) : K.findIdx? (· == s) = some k := by
  have e : K[k] = s := by rw [← hs, ht]; simp [List.getD, hk]
  rw [List.findIdx?_eq_some_iff_getElem]
  refine ⟨hk, by simp [e], fun j hj => ?_⟩
  rw [← Bool.not_eq_true, List.any_eq_true] at h
  intro hc
  exact h ⟨K[j], by rw [List.mem_take_iff_getElem]; exact ⟨j, by omega, rfl⟩, hc⟩
theorem find_end (K : List Bs) (s : Bs) (k : Nat) (hk : ¬ k < K.length) (h : (K.take k).any (· == s) = false) : K.findIdx? (· == s) = none := by
  rw [List.take_of_length_le (by omega)] at h
  rw [List.findIdx?_eq_none_iff]
  intro x hx
  rw [List.any_eq_false] at h
  exact by simpa using h x hx
end Pp

theorem index_str (w : World) (A : Array Value) (t : TypeId) (n k : Nat) (l : List UInt8) (ht : Tryz.prog.underlying t = some (.array n 9)) (hk : k < n) (hA : A[k]? = some (.string ⟨l.toArray⟩)) :
    (Instr.index t (.agg A) (.int .i64 (k : Int))).run Tryz.prog w = .ok (.string ⟨l.toArray⟩) w := by
  have h1 : (0 : Int) ≤ (k : Int) ∧ (k : Int) < (n : Int) := by omega
  simp [Instr.index, run_underlying ht, asIntOf, h1, go_sem]
  rw [if_pos hk, hA]
  rfl

set_option maxRecDepth 100000 in
set_option maxHeartbeats 1000000 in
theorem Kept_any (s : List UInt8) (w : World) (ht : TabS w) :
    Calls Tryz.prog 57 #[.string ⟨s.toArray⟩] w fun e w' => e = .returned (.bool (Pp.keptL s)) ∧ w' = w := by
  have h0 := ht.kept 0 _ rfl
  have h1 := ht.kept 1 _ rfl
  have h2 := ht.kept 2 _ rfl
  have h3 := ht.kept 3 _ rfl
  have h4 := ht.kept 4 _ rfl
  have h5 := ht.kept 5 _ rfl
  have h6 := ht.kept 6 _ rfl
  have h7 := ht.kept 7 _ rfl
  have h8 := ht.kept 8 _ rfl
  have h9 := ht.kept 9 _ rfl
  have h10 := ht.kept 10 _ rfl
  have h11 := ht.kept 11 _ rfl
  clear ht
  unfold strV at *
  go_enter Tryz.func57, Tryz.ntmps57
  go_wp2
  clear h0 h1 h2 h3 h4 h5 h6 h7 h8 h9 h10 h11
  obtain ⟨K, hK⟩ : ∃ K, K = Pp.keptWords := ⟨_, rfl⟩
  have hL : Hid (K.length = 12) := by rw [hK]; exact hide rfl
  have hg : Hid (Pp.keptL s = K.any (· == s)) := by rw [hK]; rfl
  generalize hA : (#[_, _, _, _, _, _, _, _, _, _, _, _] : Array Value) = A
  have hAK : A = (K.map fun t => Value.string ⟨t.toArray⟩).toArray := by rw [← hA, hK]; rfl
  clear hA hK
  have hAt : ∀ k, k < 12 → A[k]? = some (.string ⟨(K.getD k []).toArray⟩) := by
    intro k hk; rw [hAK]; simp [List.getD, show k < K.length by have := hL.out; omega]
  clear hAK
  go_loop [6] (fun i => ∃ k : Nat, k ≤ 12 ∧ i = .int .i64 k ∧ Hid ((K.take k).any (· == s) = false)) (fun i => 12 - (intOf i).toNat)
  case atStart => exact ⟨0, by omega, rfl, rfl⟩
  case round =>
    obtain ⟨k, hk, rfl, hp⟩ := hrel
    by_cases hlt : k < 12
    · have hix := index_str w A 123 12 k _ Tryz.underlying123 hlt (hAt k hlt)
      clear hAt
      obtain ⟨t, htt⟩ : ∃ t, t = K.getD k [] := ⟨_, rfl⟩
      rw [← htt] at hix
      have HT := hide htt
      clear htt
      by_cases hts : t = s
      · have hr := hide (hg.out.trans (Pp.any_at K s t k (by rw [hL.out]; exact hlt) HT.out hts))
        subst hts
        go_wp2
        go_ret
        rw [hr.out]
        exact ⟨rfl, rfl⟩
      · have hr := hide (Pp.any_step K s t k (by rw [hL.out]; exact hlt) HT.out hts hp.out)
        have hne : (t == s) = false := by simp [hts]
        go_wp2
        go_round
        case rel => exact ⟨k + 1, by omega, by go_num, hr⟩
        case measure => simp [intOf]; omega
    · have hr := hide (hg.out.trans (Pp.any_end K s k (by rw [hL.out]; exact hlt) hp.out))
      clear hAt
      go_wp2
      go_ret
      rw [hr.out]
      exact ⟨rfl, rfl⟩

end Go.Proofs.YtdgfidaopkcjoaaGreatDoor

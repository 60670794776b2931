/- A program's words, cut off anywhere: fewer classes, or a fault at the end. No program is named here. -/
import Derived.Test.YtpngpkbnhepleaaDoorPureP
namespace Go.Proofs.YtpngpkbnhepleaaDoor
namespace Pp
set_option linter.unusedVariables false
set_option linter.unusedSimpArgs false

theorem many_still (B : List Wd) (q : Wd → Bool) (item : Pr Cls) : ∀ (k : Nat) (acc : List Cls) (s : St), ((many q item k acc).run B s).2.e = 0 → ((many q item k acc).run B s).1.length = acc.length → ((many q item k acc).run B s).2 = s := by
  intro k acc s h hl
  cases hh : has B s q with
  | false => rw [many_run_no hh]
  | true =>
    exfalso
    cases k with
    | zero => rw [many_run_full hh] at h; exact fail_two s h
    | succ k =>
      rw [many_run_yes hh] at h hl
      obtain ⟨ds, e1, _⟩ := many_more B q item k _ _ h
      rw [e1] at hl
      simp at hl
theorem prog_full {L : List Wd} {cs : List Cls} {z : St} (h : progP.run L ⟨0, 0⟩ = (cs, z)) (he : z.e = 0) : (classes.run L ⟨0, 0⟩).1 = cs ∧ (classes.run L ⟨0, 0⟩).2 = z ∧ L.length ≤ z.i := by
  have e : progP.run L ⟨0, 0⟩ = (Pr.peek (fun _ => true) (.fail 4 (.ret (classes.run L ⟨0, 0⟩).1)) (.ret (classes.run L ⟨0, 0⟩).1)).run L (classes.run L ⟨0, 0⟩).2 := rfl
  rw [e] at h
  cases hh : has L (classes.run L ⟨0, 0⟩).2 (fun _ => true) with
  | true =>
    exfalso
    obtain ⟨t, ht, _, h0⟩ := has_cur hh
    rw [run_peek_yes hh, run_fail] at h
    have h2 : failS (classes.run L ⟨0, 0⟩).2 4 = z := congrArg Prod.snd h
    rw [← h2] at he
    simp [failS, h0] at he
  | false =>
    rw [run_peek_no hh] at h
    have h1 : (classes.run L ⟨0, 0⟩).1 = cs := congrArg Prod.fst h
    have h2 : (classes.run L ⟨0, 0⟩).2 = z := congrArg Prod.snd h
    refine ⟨h1, h2, ?_⟩
    rw [h2] at hh
    rcases Nat.lt_or_ge z.i L.length with hl | hl
    · exfalso
      unfold has cur at hh
      rw [if_pos he, List.getElem?_eq_getElem hl] at hh
      cases hh
    · exact hl
theorem program_cut (L : List Wd) (cs : List Cls) (z : St) (k : Nat) (hk : k < L.length) (h : progP.run L ⟨0, 0⟩ = (cs, z)) (he : z.e = 0) :
    ((progP.run (L.take k) ⟨0, 0⟩).2.e = 0 ∧ ∃ rest, rest ≠ [] ∧ cs = (progP.run (L.take k) ⟨0, 0⟩).1 ++ rest) ∨ ((progP.run (L.take k) ⟨0, 0⟩).2.e = 4 ∧ (progP.run (L.take k) ⟨0, 0⟩).2.i = k) := by
  obtain ⟨h1, h2, h3⟩ := prog_full h he
  have hPR : L = L.take k ++ L.drop k := (List.take_append_drop k L).symm
  have hPl : (L.take k).length = k := by rw [List.length_take]; omega
  have e : progP.run (L.take k) ⟨0, 0⟩ = (Pr.peek (fun _ => true) (.fail 4 (.ret (classes.run (L.take k) ⟨0, 0⟩).1)) (.ret (classes.run (L.take k) ⟨0, 0⟩).1)).run (L.take k) (classes.run (L.take k) ⟨0, 0⟩).2 := rfl
  have hR : classes.run (L.take k ++ L.drop k) ⟨0, 0⟩ = classes.run L ⟨0, 0⟩ := by rw [← hPR]
  have hc := many_cut (L.take k) (L.drop k) (isW2 wClass wInterface) 10 [] ⟨0, 0⟩ rfl (Nat.zero_le _) (by
    show (classes.run (L.take k ++ L.drop k) ⟨0, 0⟩).2.e = 0
    rw [hR, h2]; exact he) (by
    show _ ≤ (classes.run (L.take k ++ L.drop k) ⟨0, 0⟩).2.i
    rw [hR, h2, hPl]; omega)
  rcases hc with ⟨c1, c2, rest, c3⟩ | ⟨c1, c2⟩
  · left
    have c1' : (classes.run (L.take k) ⟨0, 0⟩).2.e = 0 := c1
    have c2' : (classes.run (L.take k) ⟨0, 0⟩).2.i = (L.take k).length := c2
    have c3' : (classes.run (L.take k ++ L.drop k) ⟨0, 0⟩).1 = (classes.run (L.take k) ⟨0, 0⟩).1 ++ rest := c3
    rw [e, run_peek_no (has_end _ _ _ c2')]
    refine ⟨c1', rest, fun hr => ?_, ?_⟩
    · obtain ⟨k', m1, m2⟩ := many_pre (L.take k) (L.drop k) (isW2 wClass wInterface) 10 [] ⟨0, 0⟩ c1
      have m3 := m2 c2
      have m4 : classes.run (L.take k ++ L.drop k) ⟨0, 0⟩ = (many (isW2 wClass wInterface) cls k' (classes.run (L.take k) ⟨0, 0⟩).1).run (L.take k ++ L.drop k) (classes.run (L.take k) ⟨0, 0⟩).2 := m3
      have m5 := many_still (L.take k ++ L.drop k) (isW2 wClass wInterface) cls k' (classes.run (L.take k) ⟨0, 0⟩).1 (classes.run (L.take k) ⟨0, 0⟩).2 (by rw [← m4, hR, h2]; exact he) (by rw [← m4, c3', hr, List.append_nil])
      rw [← m4, hR, h2] at m5
      rw [m5, c2', hPl] at h3
      omega
    · show cs = (classes.run (L.take k) ⟨0, 0⟩).1 ++ rest
      rw [← c3', hR, h1]
  · right
    have c1' : (classes.run (L.take k) ⟨0, 0⟩).2.e = 4 := c1
    have c2' : (classes.run (L.take k) ⟨0, 0⟩).2.i = (L.take k).length := c2
    rw [e, run_peek_no (has_end _ _ _ c2')]
    exact ⟨c1', c2'.trans hPl⟩
end Pp
end Go.Proofs.YtpngpkbnhepleaaDoor

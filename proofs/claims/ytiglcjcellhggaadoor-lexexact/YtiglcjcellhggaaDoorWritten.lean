/- What written answers. -/
import Derived.Test.YtiglcjcellhggaaDoorSmall
import Derived.Test.YtiglcjcellhggaaDoorPlainJ
import Derived.Test.YtiglcjcellhggaaDoorShelf
import Derived.WalkSmall
namespace Go.Proofs.YtiglcjcellhggaaDoor
open Go.RowKit
set_option linter.unusedVariables false
set_option linter.unusedSimpArgs false

theorem gTab : Tryd.prog.globalNamed "internal/strconv.uint64pow10" = some 1 := by kernel_rfl
def Tab (w : World) : Prop := Lib.TabIs Tryd.prog w "internal/strconv.uint64pow10" .u64 Lib.pow10Tab
theorem Tab.lt {w : World} (h : Tab w) : 1 < w.heap.size := by
  unfold Tab Lib.TabIs World.var? at h
  simp only [gTab, Option.bind_some] at h
  rcases Nat.lt_or_ge 1 w.heap.size with h' | h'
  · exact h'
  · simp [Array.getElem?_eq_none h'] at h
theorem Tab.keep {w w' : World} {B : Nat} (h : Tab w) (hb : Below B w w') (h0 : 1 < B) : Tab w' := var?_below hb gTab h0 h
theorem Tab.on {w w' : World} (h : Tab w) (hb : Below w.heap.size w w') : Tab w' := h.keep hb h.lt
theorem below_grow (w : World) (k : Nat) (os : Array Obj) : Below w.heap.size w (Sort.grow (w.drewN k) os) := by
  refine ⟨rfl, rfl, rfl, ?_, fun i hi => ?_⟩
  · show w.heap.size ≤ (w.heap ++ os).size
    simp
  · show (w.heap ++ os)[i]? = w.heap[i]?
    rw [Array.getElem?_append_left hi]
theorem Itoa_is (n : Int) (h0 : -2147483648 ≤ n) (h1 : n ≤ 2147483647) (w : World) (ht : Tab w) :
    Calls Tryd.prog 34 #[.int .i64 n] w fun e w' => e = .returned (.string ⟨(Lx.intL n).toArray⟩) ∧ Below w.heap.size w w' := by
  refine (Tryd.strconv_Itoa n (by omega) (by omega) w ht).mono ?_
  rintro e w' ⟨rfl, k, os, rfl⟩
  rw [Lx.itoa_intL n h0 h1]
  exact ⟨rfl, below_grow w k os⟩

theorem sign_is (s : ByteArray) (r : Bool) (h : Lx.signL s.data.toList = r) (hs : s.size ≤ maxLen) (w : World) :
    Calls Tryd.prog 33 #[.string s] w fun e w' => e = .returned (.bool r) ∧ w' = w := by
  have := sign_any s hs w
  rw [h] at this
  exact this
theorem isEmpty_list (l : List UInt8) (h : l ≠ []) : (⟨l.toArray⟩ : ByteArray).toList.isEmpty = false :=
  isEmpty_pos _ (by rw [str_size]; exact List.length_pos_iff.2 h)

set_option maxHeartbeats 2000000 in
theorem written_some (t : Lx.ATok) (l : List UInt8) (h : Lx.wordA t = some l) (hs : t.text.length ≤ maxLen) (w : World) (ht : Tab w) :
    Calls Tryd.prog 26 #[.agg #[.int .i64 t.kind, .string ⟨t.text.toArray⟩, .int .i64 t.num, .int .i64 t.pos]] w fun e w' => e = .returned (.tuple #[.string ⟨l.toArray⟩, .bool true]) ∧ Below w.heap.size w w' := by
  obtain ⟨k, s, n, p⟩ := t
  unfold Lx.wordA at h
  simp only at h hs ⊢
  have hsz : (⟨s.toArray⟩ : ByteArray).size ≤ maxLen := by rw [str_size]; exact hs
  by_cases h1 : k = 1
  · rw [if_pos h1] at h
    split at h
    · rename_i hc
      injection h with h; subst h
      obtain ⟨hc1, hc2⟩ := hc
      subst h1 hc1
      go_enter Tryd.func26, Tryd.ntmps26
      go_wp2_with (go_at_call 14; refine (Name_is _ _ hc2 hsz _).mono ?_; rintro e w' ⟨rfl, rfl⟩)
      go_ret2
      exact ⟨rfl, (Below.refl _ _).alloc (Nat.le_refl _) _⟩
    · cases h
  · rw [if_neg h1] at h
    by_cases h2 : k = 2
    · rw [if_pos h2] at h
      split at h
      · rename_i hc
        injection h with h; subst h
        obtain ⟨hc1, hc2, hc3⟩ := hc
        subst h2 hc1
        have HT : Hid (Tab w) := ht
        clear ht h1 hs hsz
        go_enter Tryd.func26, Tryd.ntmps26
        go_wp2_with fail
        refine (Itoa_is n hc2 hc3 _ (HT.out.on ((Below.refl _ _).alloc (Nat.le_refl _) _))).mono ?_
        rintro e w1 ⟨rfl, hb1⟩
        go_wp2_with fail
        go_ret2
        exact ⟨rfl, ((Below.refl _ _).alloc (Nat.le_refl _) _).trans (hb1.mono (by simp))⟩
      · cases h
    · rw [if_neg h2] at h
      by_cases h3 : k = 3
      · rw [if_pos h3] at h
        split at h
        · rename_i hc
          injection h with h; subst h
          obtain ⟨hc1, hc2⟩ := hc
          subst h3 hc1
          go_enter Tryd.func26, Tryd.ntmps26
          go_wp2_with (go_at_call 33; refine (sign_is _ _ hc2 hsz _).mono ?_; rintro e w' ⟨rfl, rfl⟩)
          go_ret2
          exact ⟨rfl, (Below.refl _ _).alloc (Nat.le_refl _) _⟩
        · cases h
      · rw [if_neg h3] at h; cases h

set_option maxHeartbeats 2000000 in
theorem written_none (t : Lx.ATok) (h : Lx.wordA t = none) (hs : t.text.length ≤ maxLen) (w : World) :
    Calls Tryd.prog 26 #[.agg #[.int .i64 t.kind, .string ⟨t.text.toArray⟩, .int .i64 t.num, .int .i64 t.pos]] w fun e w' => e = .returned (.tuple #[.string ⟨#[]⟩, .bool false]) ∧ Below w.heap.size w w' := by
  obtain ⟨k, s, n, p⟩ := t
  unfold Lx.wordA at h
  simp only at h hs ⊢
  have hsz : (⟨s.toArray⟩ : ByteArray).size ≤ maxLen := by rw [str_size]; exact hs
  by_cases h1 : k = 1
  · rw [if_pos h1] at h
    split at h
    · cases h
    · rename_i hc
      subst h1
      clear h
      by_cases hn : n = 0
      · have hnm : Lx.nameL (⟨s.toArray⟩ : ByteArray).data.toList = false := by
          rw [← Bool.not_eq_true]; exact fun x => hc ⟨hn, x⟩
        clear hc
        subst hn
        go_enter Tryd.func26, Tryd.ntmps26
        go_wp2_with (go_at_call 14; refine (Name_is _ _ hnm hsz _).mono ?_; rintro e w' ⟨rfl, rfl⟩)
        go_ret2
        exact ⟨rfl, (Below.refl _ _).alloc (Nat.le_refl _) _⟩
      · have hn' : (n == 0) = false := by simpa using hn
        clear hc hn
        go_enter Tryd.func26, Tryd.ntmps26
        go_wp2_with fail
        go_ret2
        exact ⟨rfl, (Below.refl _ _).alloc (Nat.le_refl _) _⟩
  · rw [if_neg h1] at h
    have h1' : (k == 1) = false := by simpa using h1
    by_cases h2 : k = 2
    · rw [if_pos h2] at h
      split at h
      · cases h
      · rename_i hc
        subst h2
        clear h h1 h1'
        by_cases hx : s = []
        · subst hx
          have hr : n < -2147483648 ∨ (-2147483648 ≤ n ∧ 2147483647 < n) := by
            by_cases a : -2147483648 ≤ n
            · by_cases b : n ≤ 2147483647
              · exact absurd ⟨rfl, a, b⟩ hc
              · exact .inr ⟨a, by omega⟩
            · exact .inl (by omega)
          clear hc
          rcases hr with hr | ⟨hr1, hr⟩
          all_goals
            go_enter Tryd.func26, Tryd.ntmps26
            go_wp2_with fail
            go_ret2
            exact ⟨rfl, (Below.refl _ _).alloc (Nat.le_refl _) _⟩
        · have hem := isEmpty_list s hx
          clear hc hx hs
          generalize (⟨s.toArray⟩ : ByteArray) = S at *
          go_enter Tryd.func26, Tryd.ntmps26
          go_wp2_with fail
          go_ret2
          exact ⟨rfl, (Below.refl _ _).alloc (Nat.le_refl _) _⟩
    · rw [if_neg h2] at h
      have h2' : (k == 2) = false := by simpa using h2
      by_cases h3 : k = 3
      · rw [if_pos h3] at h
        split at h
        · cases h
        · rename_i hc
          subst h3
          clear h h1 h1' h2 h2'
          by_cases hn : n = 0
          · have hnm : Lx.signL (⟨s.toArray⟩ : ByteArray).data.toList = false := by
              rw [← Bool.not_eq_true]; exact fun x => hc ⟨hn, x⟩
            clear hc
            subst hn
            go_enter Tryd.func26, Tryd.ntmps26
            go_wp2_with (go_at_call 33; refine (sign_is _ _ hnm hsz _).mono ?_; rintro e w' ⟨rfl, rfl⟩)
            go_ret2
            exact ⟨rfl, (Below.refl _ _).alloc (Nat.le_refl _) _⟩
          · have hn' : (n == 0) = false := by simpa using hn
            clear hc hn
            go_enter Tryd.func26, Tryd.ntmps26
            go_wp2_with fail
            go_ret2
            exact ⟨rfl, (Below.refl _ _).alloc (Nat.le_refl _) _⟩
      · have h3' : (k == 3) = false := by simpa using h3
        clear h h1 h2 h3
        go_enter Tryd.func26, Tryd.ntmps26
        go_wp2_with fail
        go_ret2
        exact ⟨rfl, (Below.refl _ _).alloc (Nat.le_refl _) _⟩

end Go.Proofs.YtiglcjcellhggaaDoor

/- What the page's Digits and Shape answer. -/
import Derived.Test.YtpngpkbnhepleaaDoorJoinA
import Derived.Test.YtpngpkbnhepleaaDoorWakes2
namespace Go.Proofs.YtpngpkbnhepleaaDoor
open Go.RowKit
set_option linter.unusedVariables false
set_option linter.unusedSimpArgs false

theorem conv_one (u : UInt8) (c : Int) (hu : (u.toNat : Int) = c) (w : World) :
    (convert 22 9 (.slice (some ⟨w.heap.size, 0, none⟩) 1 1)).run Tryd.prog (w.alloc (.cells #[.int .u8 c] 5)) = .ok (.string ⟨#[u]⟩) (w.alloc (.cells #[.int .u8 c] 5)) := by
  subst hu
  have := conv_bytes [u] (w.alloc (.cells #[.int .u8 (u.toNat : Int)] 5)) w.heap.size 0 1 (fun k hk => by
    have : k = 0 := by simp at hk; exact hk
    subst this; rw [cell_marked]; rfl) 0 1 1 (by simp)
  exact this
set_option maxHeartbeats 1000000 in
theorem Digits_nat (f : Nat) (hf : f ≤ 19) : ∀ (n : Nat) (w : World), n < 10 ^ (f + 1) → n ≤ 1099511627776 →
    Calls Tryd.prog 27 #[.int .i64 (n : Int)] w fun e w' => e = .returned (.string ⟨(Lx.digF f n).toArray⟩) ∧ Below w.heap.size w w' := by
  induction f with
  | zero =>
    intro n w hn hb
    have hcv := conv_one (Lx.dg n) (48 + (n : Int) % 10) (by rw [Lx.dg_nat]; omega)
    have hn' : n < 10 := by simpa using hn
    clear hn
    go_enter Tryd.func27, Tryd.ntmps27
    go_wp2_with fail
    go_ret
    exact ⟨rfl, (Below.refl _ _).alloc (Nat.le_refl _) _⟩
  | succ f ih =>
    intro n w hn hb
    have hcv := conv_one (Lx.dg n) (48 + (n : Int) % 10) (by rw [Lx.dg_nat]; omega)
    by_cases h10 : n < 10
    · have HE : Hid (Lx.digF (f + 1) n = [Lx.dg n]) := by show _ = _; rw [Lx.digF, if_pos h10]
      clear ih hn
      go_enter Tryd.func27, Tryd.ntmps27
      go_wp2_with fail
      go_ret
      exact ⟨by rw [HE.out]; rfl, (Below.refl _ _).alloc (Nat.le_refl _) _⟩
    · have HE : Hid (Lx.digF (f + 1) n = Lx.digF f (n / 10) ++ [Lx.dg n]) := by show _ = _; rw [Lx.digF, if_neg h10]
      have hlen := (Lx.digF_len f (n / 10)).2
      have hih := fun w' => ih (by omega) (n / 10) w' (by rw [Nat.pow_succ] at hn; omega) (by omega)
      rw [show ((n / 10 : Nat) : Int) = (n : Int) / 10 from by omega] at hih
      have HI : Hid (∀ w', Calls Tryd.prog 27 #[.int .i64 ((n : Int) / 10)] w' fun e w'' => e = .returned (.string ⟨(Lx.digF f (n / 10)).toArray⟩) ∧ Below w'.heap.size w' w'') := hih
      clear hih ih hn
      go_enter Tryd.func27, Tryd.ntmps27
      go_wp2_with fail
      refine (HI.out _).mono ?_
      rintro e w1 ⟨rfl, hb1⟩
      have hB : Below w.heap.size w w1 := ((Below.refl _ _).alloc (Nat.le_refl _) _).trans (hb1.mono (by simp))
      clear HI hb1 hcv
      have hst := str_app (Lx.digF f (n / 10)) [Lx.dg n]
      have hsz := str_size (Lx.digF f (n / 10))
      rw [← HE.out] at hst
      generalize (⟨(Lx.digF f (n / 10)).toArray⟩ : ByteArray) = S at *
      have HST : Hid (S ++ ⟨[Lx.dg n].toArray⟩ = ⟨(Lx.digF (f + 1) n).toArray⟩) := hst
      have hs1 : S.size ≤ 30 := by omega
      clear hst hsz HE hlen
      go_wp2_with fail
      go_ret
      exact ⟨by rw [← HST.out]; rfl, hB⟩

set_option maxHeartbeats 1000000 in
theorem Digits_any (n : Int) (h0 : -1099511627776 ≤ n) (h1 : n ≤ 1099511627776) (w : World) :
    Calls Tryd.prog 27 #[.int .i64 n] w fun e w' => e = .returned (.string ⟨(Lx.intL n).toArray⟩) ∧ Below w.heap.size w w' := by
  by_cases hn : n < 0
  · have hE : Lx.intL n = [45] ++ Lx.digF 19 n.natAbs := by rw [Lx.intL, if_pos hn]; rfl
    have hst := str_app [45] (Lx.digF 19 n.natAbs)
    have hlen := (Lx.digF_len 19 n.natAbs).2
    have hsz := str_size (Lx.digF 19 n.natAbs)
    rw [← hE] at hst
    have hd := fun w => Digits_nat 19 (by omega) n.natAbs w (by omega) (by omega)
    rw [show ((n.natAbs : Nat) : Int) = -n from by omega] at hd
    have HD : Hid (∀ w, Calls Tryd.prog 27 #[.int .i64 (-n)] w fun e w' => e = .returned (.string ⟨(Lx.digF 19 n.natAbs).toArray⟩) ∧ Below w.heap.size w w') := hd
    clear hd hE
    generalize (⟨(Lx.digF 19 n.natAbs).toArray⟩ : ByteArray) = S at *
    have HST : Hid ((⟨[45].toArray⟩ : ByteArray) ++ S = ⟨(Lx.intL n).toArray⟩) := hst
    have hs1 : S.size ≤ 30 := by omega
    clear hst hsz hlen
    go_enter Tryd.func27, Tryd.ntmps27
    go_wp2_with fail
    refine (HD.out _).mono ?_
    rintro e w1 ⟨rfl, hb1⟩
    go_wp2_with fail
    go_ret
    exact ⟨by rw [← HST.out]; rfl, hb1⟩
  · have hd := Digits_nat 19 (by omega) n.natAbs w (by omega) (by omega)
    rw [show ((n.natAbs : Nat) : Int) = n from by omega] at hd
    rw [Lx.intL, if_neg hn]
    exact hd

set_option maxHeartbeats 2000000 in
theorem Shape_any (op : Nat) (h : op < 44) (w : World) :
    Calls Tryd.prog 26 #[.int .i64 (op : Int)] w fun e w' => e = .returned (.int .i64 (Pp.shape op : Int)) ∧ w' = w := by
  rcases (show op = 0 ∨ op = 1 ∨ op = 2 ∨ op = 3 ∨ op = 4 ∨ op = 5 ∨ op = 6 ∨ op = 7 ∨ op = 8 ∨ op = 9 ∨ op = 10 ∨ op = 11 ∨ op = 12 ∨ op = 13 ∨ op = 14 ∨ op = 15 ∨ op = 16 ∨ op = 17 ∨ op = 18 ∨ op = 19 ∨ op = 20 ∨ op = 21 ∨ op = 22 ∨ op = 23 ∨ op = 24 ∨ op = 25 ∨ op = 26 ∨ op = 27 ∨ op = 28 ∨ op = 29 ∨ op = 30 ∨ op = 31 ∨ op = 32 ∨ op = 33 ∨ op = 34 ∨ op = 35 ∨ op = 36 ∨ op = 37 ∨ op = 38 ∨ op = 39 ∨ op = 40 ∨ op = 41 ∨ op = 42 ∨ op = 43 by omega) with rfl | rfl | rfl | rfl | rfl | rfl | rfl | rfl | rfl | rfl | rfl | rfl | rfl | rfl | rfl | rfl | rfl | rfl | rfl | rfl | rfl | rfl | rfl | rfl | rfl | rfl | rfl | rfl | rfl | rfl | rfl | rfl | rfl | rfl | rfl | rfl | rfl | rfl | rfl | rfl | rfl | rfl | rfl | rfl
  all_goals (go_enter Tryd.func26, Tryd.ntmps26; go_wp2; go_ret; exact ⟨rfl, rfl⟩)

end Go.Proofs.YtpngpkbnhepleaaDoor

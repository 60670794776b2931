/- LexNames is proved for every string and every number: a name and its beginnings, a name and a digit, what begins with a digit. -/
import Derived.Test.YtiglcjcellhggabWakes
import Derived.Test.YtiglcjcellhggabPlain4
import Derived.Lib.ConvBytes
namespace Go.Proofs.Ytiglcjcellhggab
open Go.RowKit
set_option linter.unusedVariables false
set_option linter.unusedSimpArgs false

theorem app_size (s t : ByteArray) (h : s.size ≤ 100) (ht : t.size ≤ 100) : (s ++ t).size ≤ maxLen := by
  rw [ByteArray.size_append]; unfold maxLen; omega
theorem wrap64_id (n : Int) (h : -9223372036854775808 ≤ n ∧ n ≤ 9223372036854775807) : wrap64 n = n := by unfold wrap64; omega
theorem below_bytes (w : World) (e : TypeId) (s : ByteArray) : Below w.heap.size w (Lib.bytesWorld w e s) :=
  ⟨rfl, rfl, rfl, by rw [Lib.bytesWorld_size]; omega, fun k hk => Lib.bytesWorld_at_old w e s k hk⟩
theorem pick_range (n : Int) (k : Nat) (h : 1 ≤ k) (hk : k ≤ 100) : ∃ m : Nat, 1 ≤ m ∧ m ≤ k ∧ wrap64 (1 + wrap64 ((IntKind.u64.wrap n).tmod (k : Int))) = (m : Int) := by
  have h0 : 0 ≤ IntKind.u64.wrap n := by
    simp only [IntKind.wrap, IntKind.bits, IntKind.signed]
    simp
    exact Int.emod_nonneg _ (by decide)
  generalize IntKind.u64.wrap n = u at h0
  have h1 : 0 ≤ u.tmod (k : Int) := Int.tmod_nonneg _ h0
  have h2 : u.tmod (k : Int) < (k : Int) := Int.tmod_lt_of_pos _ (by omega)
  generalize u.tmod (k : Int) = r at h1 h2
  refine ⟨(1 + r).toNat, by omega, by omega, ?_⟩
  have e1 : wrap64 r = r := wrap64_id r (by omega)
  have e2 : wrap64 (1 + r) = 1 + r := wrap64_id _ (by omega)
  rw [e1, e2]; omega

set_option maxHeartbeats 1000000 in
theorem names_walk (s : ByteArray) (n : Int) (w : World) (hs : s.size ≤ maxLen) :
    Calls Try.prog 3 #[.string s, .int .i64 n] w fun e w' => e = .returned (.bool true) ∧ Below w.heap.size w w' := by
  by_cases hbig : 100 < s.size
  · unfold maxLen at hs
    go_enter Try.func3, Try.ntmps3
    go_wp2_with fail
    go_ret
    exact ⟨rfl, Below.refl _ _⟩
  have hs' : s.size ≤ 100 := by omega
  cases hnm : Lx.nameL s.data.toList with
  | false =>
    have hnb : Lx.nameL (s ++ ⟨#[32]⟩).data.toList = false := by
      rw [show (s ++ (⟨#[32]⟩ : ByteArray)).data.toList = s.data.toList ++ [32] from by simp]
      exact Lx.nameL_blank _
    go_enter Try.func3, Try.ntmps3
    go_wp2_with fail
    refine (Name_any s hs _).mono ?_
    rintro e w' ⟨rfl, rfl⟩
    go_wp2_with fail
    refine (Name_is _ false hnb (app_size _ _ hs' (by decide)) _).mono ?_
    rintro e w' ⟨rfl, rfl⟩
    go_wp2_with fail
    refine (wakes_any _).mono ?_
    rintro e w1 ⟨rfl, hb⟩
    go_wp2_with fail
    go_ret
    exact ⟨rfl, hb⟩
  | true =>
    obtain ⟨h1, h20, _, _⟩ := (Lx.nameL_iff _).1 hnm
    rw [Lx.toList_len] at h1 h20
    obtain ⟨m, hm1, hm2, hm⟩ := pick_range n s.size h1 (by omega)
    have hcv := fun w : World => Lib.run_convert_string_bytes (P := Try.prog) w 9 29 5 s (by kernel_rfl : Try.prog.underlying 9 = some .string) (by kernel_rfl) (by kernel_rfl)
    have hn1 : Lx.nameL (s.extract 0 m).data.toList = true := by
      rw [show (s.extract 0 m).data.toList = s.data.toList.take m from by simp [ByteArray.data_extract]]
      exact Lx.nameL_take _ hnm m hm1 (by simpa using hm2)
    have hn2 : Lx.nameL (s ++ ⟨#[55]⟩).data.toList = decide ((s.size : Int) < 20) := by
      rw [show (s ++ (⟨#[55]⟩ : ByteArray)).data.toList = s.data.toList ++ [55] from by simp, Lx.nameL_digit _ hnm]
      rw [Lx.toList_len]; exact decide_eq_decide.2 (by omega)
    have hn3 : Lx.nameL ((⟨#[55]⟩ : ByteArray) ++ s).data.toList = false := by
      rw [show ((⟨#[55]⟩ : ByteArray) ++ s).data.toList = 55 :: s.data.toList from by simp]
      exact Lx.nameL_seven _
    have hsc : Lx.scanL s.data.toList = ([⟨1, s.data.toList, 0, 0⟩], 0, 0) := Lx.scanL_name _ hnm
    have HN1 : Hid (Lx.nameL (s.extract 0 m).data.toList = true) := hn1
    have HN2 : Hid (Lx.nameL (s ++ ⟨#[55]⟩).data.toList = decide ((s.size : Int) < 20)) := hn2
    have HN3 : Hid (Lx.nameL ((⟨#[55]⟩ : ByteArray) ++ s).data.toList = false) := hn3
    have HSC : Hid (Lx.scanL s.data.toList = ([⟨1, s.data.toList, 0, 0⟩], 0, 0)) := hsc
    clear hn1 hn2 hn3 hsc
    go_enter Try.func3, Try.ntmps3
    go_wp2_with fail
    refine (Name_is s true hnm hs _).mono ?_
    rintro e w' ⟨rfl, rfl⟩
    go_wp2_with fail
    clear hcv
    have hsc := Scan_any s.data.toList w'.heap.size 0 (grownCap w' s.size 0 5) (Lib.bytesWorld w' 5 s) (by rw [Lx.toList_len]; omega) (by rw [Lx.toList_len]; exact grownCap_ge _ _ _ _) (by rw [Lib.bytesWorld_size]; omega)
      (fun k hk => by rw [Nat.zero_add, Lib.bytesWorld_cell _ _ _ _ (by rw [← Lx.toList_len]; exact hk)])
    rw [HSC.out, Lx.toList_len] at hsc
    refine hsc.mono ?_
    clear hsc
    rw [hm]
    clear hm
    rintro e w1 ⟨v, rfl, hown, hb1⟩
    obtain ⟨g, cap, rfl, hg, hg', _, _, hcl⟩ := own_some hown (Nat.zero_lt_one)
    have hK : w1.cell? ⟨g, 0, none⟩ = some (.int .i64 1) := hcl 0 _ rfl
    have hT : w1.cell? ⟨g, 1, none⟩ = some (.string s) := hcl 1 _ rfl
    have hB : Below w'.heap.size w' w1 := (below_bytes _ _ _).trans (hb1.mono (by rw [Lib.bytesWorld_size]; omega))
    clear hcl hown hb1 hg
    go_wp2_with fail
    refine (Name_is _ true HN1.out (by rw [ByteArray.size_extract]; unfold maxLen; omega) _).mono ?_
    rintro e w2 ⟨rfl, rfl⟩
    go_wp2_with fail
    refine (Name_is _ _ HN2.out (app_size _ _ hs' (by decide)) _).mono ?_
    rintro e w2 ⟨rfl, rfl⟩
    have hq : (decide ((s.size : Int) < 20) == decide ((s.size : Int) < 20)) = true := by simp
    go_wp2_with fail
    refine (Name_is _ _ HN3.out (app_size _ _ (by decide) hs') _).mono ?_
    rintro e w2 ⟨rfl, rfl⟩
    go_wp2_with fail
    refine (wakes_any _).mono ?_
    rintro e w3 ⟨rfl, hb3⟩
    go_wp2_with fail
    go_ret
    exact ⟨rfl, hB.trans (hb3.mono hB.size)⟩

end Go.Proofs.Ytiglcjcellhggab

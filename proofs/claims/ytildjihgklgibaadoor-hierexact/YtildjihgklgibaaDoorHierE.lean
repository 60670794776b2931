/- What standing answers: the classes that always stand. -/
import Derived.Test.YtildjihgklgibaaDoorHierD
namespace Go.Proofs.YtildjihgklgibaaDoor
open Go.RowKit
set_option linter.unusedVariables false
set_option linter.unusedSimpArgs false
namespace Hr
/-- A class without rows, whatever the world. -/
def BasX (c : Pp.XCls) (ys : List Value) : Prop := ys = clsXL c (.slice none 0 0) (.slice none 0 0) (.slice none 0 0) ∧ (c.ifaces = [] ∧ c.fields = [] ∧ c.methods = []) ∧ c.name.length ≤ maxLen ∧ c.super.length ≤ maxLen
theorem row_nil {α : Type} {w : World} {sz : Nat} {P : α → List Value → Prop} : RowX w sz P (.slice none 0 0) ([] : List α) := ⟨none, 0, rfl, Nat.le_refl _, .inl rfl⟩
theorem BasX.x {c : Pp.XCls} {ys : List Value} (h : BasX c ys) (w : World) : ClsX w c ys := by
  obtain ⟨rfl, ⟨h1, h2, h3⟩, h4, h5⟩ := h
  refine ⟨_, _, _, rfl, ?_, ?_, ?_, h4, h5, ?_, ?_, ?_⟩
  · rw [h1]; exact row_nil
  · rw [h2]; exact row_nil
  · rw [h3]; exact row_nil
  · rw [h1]; exact Nat.zero_le _
  · rw [h2]; exact Nat.zero_le _
  · rw [h3]; exact Nat.zero_le _
theorem BasX.o {c : Pp.XCls} {ys : List Value} (h : BasX c ys) (w : World) (base : Nat) : Ow.ClsO w base c ys := by
  obtain ⟨rfl, ⟨h1, h2, h3⟩, h4, h5⟩ := h
  refine ⟨_, _, _, rfl, ?_, ?_, ?_, h4, h5, ?_, ?_, ?_⟩
  · rw [h1]; exact Ow.OwnX.nil _ _ _ _ _
  · rw [h2]; exact Ow.OwnX.nil _ _ _ _ _
  · rw [h3]; exact Ow.OwnX.nil _ _ _ _ _
  · rw [h1]; exact Nat.zero_le _
  · rw [h2]; exact Nat.zero_le _
  · rw [h3]; exact Nat.zero_le _
theorem shp_bas : Ow.Shp BasX 6 := by
  rintro x ys ⟨rfl, _⟩
  exact ⟨rfl, by intro u hu; simp [clsXL] at hu; rcases hu with rfl | rfl | rfl | rfl <;> rfl⟩
theorem bas_plain {n s : Pp.Bs} (h1 : n.length ≤ maxLen) (h2 : s.length ≤ maxLen) : BasX (plain n s) [.string ⟨n.toArray⟩, .bool false, .string ⟨s.toArray⟩, .slice none 0 0, .slice none 0 0, .slice none 0 0] := ⟨rfl, ⟨rfl, rfl, rfl⟩, h1, h2⟩
theorem ix0 (w : World) : (Instr.index 100 (.agg #[.string ⟨#[78, 117, 108, 108, 69, 114, 114, 111, 114]⟩, .string ⟨#[82, 97, 110, 103, 101, 69, 114, 114, 111, 114]⟩, .string ⟨#[67, 97, 115, 116, 69, 114, 114, 111, 114]⟩, .string ⟨#[78, 117, 109, 69, 114, 114, 111, 114]⟩, .string ⟨#[83, 105, 122, 101, 69, 114, 114, 111, 114]⟩, .string ⟨#[68, 101, 112, 116, 104, 69, 114, 114, 111, 114]⟩]) (.int .i64 0)).run Tryd.prog w = .ok (.string ⟨#[78, 117, 108, 108, 69, 114, 114, 111, 114]⟩) w := by kernel_rfl
theorem ix1 (w : World) : (Instr.index 100 (.agg #[.string ⟨#[78, 117, 108, 108, 69, 114, 114, 111, 114]⟩, .string ⟨#[82, 97, 110, 103, 101, 69, 114, 114, 111, 114]⟩, .string ⟨#[67, 97, 115, 116, 69, 114, 114, 111, 114]⟩, .string ⟨#[78, 117, 109, 69, 114, 114, 111, 114]⟩, .string ⟨#[83, 105, 122, 101, 69, 114, 114, 111, 114]⟩, .string ⟨#[68, 101, 112, 116, 104, 69, 114, 114, 111, 114]⟩]) (.int .i64 1)).run Tryd.prog w = .ok (.string ⟨#[82, 97, 110, 103, 101, 69, 114, 114, 111, 114]⟩) w := by kernel_rfl
theorem ix2 (w : World) : (Instr.index 100 (.agg #[.string ⟨#[78, 117, 108, 108, 69, 114, 114, 111, 114]⟩, .string ⟨#[82, 97, 110, 103, 101, 69, 114, 114, 111, 114]⟩, .string ⟨#[67, 97, 115, 116, 69, 114, 114, 111, 114]⟩, .string ⟨#[78, 117, 109, 69, 114, 114, 111, 114]⟩, .string ⟨#[83, 105, 122, 101, 69, 114, 114, 111, 114]⟩, .string ⟨#[68, 101, 112, 116, 104, 69, 114, 114, 111, 114]⟩]) (.int .i64 2)).run Tryd.prog w = .ok (.string ⟨#[67, 97, 115, 116, 69, 114, 114, 111, 114]⟩) w := by kernel_rfl
theorem ix3 (w : World) : (Instr.index 100 (.agg #[.string ⟨#[78, 117, 108, 108, 69, 114, 114, 111, 114]⟩, .string ⟨#[82, 97, 110, 103, 101, 69, 114, 114, 111, 114]⟩, .string ⟨#[67, 97, 115, 116, 69, 114, 114, 111, 114]⟩, .string ⟨#[78, 117, 109, 69, 114, 114, 111, 114]⟩, .string ⟨#[83, 105, 122, 101, 69, 114, 114, 111, 114]⟩, .string ⟨#[68, 101, 112, 116, 104, 69, 114, 114, 111, 114]⟩]) (.int .i64 3)).run Tryd.prog w = .ok (.string ⟨#[78, 117, 109, 69, 114, 114, 111, 114]⟩) w := by kernel_rfl
theorem ix4 (w : World) : (Instr.index 100 (.agg #[.string ⟨#[78, 117, 108, 108, 69, 114, 114, 111, 114]⟩, .string ⟨#[82, 97, 110, 103, 101, 69, 114, 114, 111, 114]⟩, .string ⟨#[67, 97, 115, 116, 69, 114, 114, 111, 114]⟩, .string ⟨#[78, 117, 109, 69, 114, 114, 111, 114]⟩, .string ⟨#[83, 105, 122, 101, 69, 114, 114, 111, 114]⟩, .string ⟨#[68, 101, 112, 116, 104, 69, 114, 114, 111, 114]⟩]) (.int .i64 4)).run Tryd.prog w = .ok (.string ⟨#[83, 105, 122, 101, 69, 114, 114, 111, 114]⟩) w := by kernel_rfl
theorem ix5 (w : World) : (Instr.index 100 (.agg #[.string ⟨#[78, 117, 108, 108, 69, 114, 114, 111, 114]⟩, .string ⟨#[82, 97, 110, 103, 101, 69, 114, 114, 111, 114]⟩, .string ⟨#[67, 97, 115, 116, 69, 114, 114, 111, 114]⟩, .string ⟨#[78, 117, 109, 69, 114, 114, 111, 114]⟩, .string ⟨#[83, 105, 122, 101, 69, 114, 114, 111, 114]⟩, .string ⟨#[68, 101, 112, 116, 104, 69, 114, 114, 111, 114]⟩]) (.int .i64 5)).run Tryd.prog w = .ok (.string ⟨#[68, 101, 112, 116, 104, 69, 114, 114, 111, 114]⟩) w := by kernel_rfl
end Hr

set_option maxRecDepth 100000 in
set_option maxHeartbeats 8000000 in
theorem standing_any (w : World) :
    Calls Tryd.prog 40 #[] w fun e w' => ∃ v, e = .returned v ∧ Ow.OwnX w' w.heap.size 33 6 Hr.BasX v Hr.base ∧ Below w.heap.size w w' := by
  obtain ⟨j0, hj, hj0, hj1, hj2⟩ := Ow.info_of Ow.i_cls
  have HO0 : Hid (Ow.OwnX (w.alloc (.cells #[.string ⟨#[79, 98, 106, 101, 99, 116]⟩, .bool false, .string ⟨#[]⟩, .slice none 0 0, .slice none 0 0, .slice none 0 0, .string ⟨#[69, 114, 114, 111, 114]⟩, .bool false, .string ⟨#[79, 98, 106, 101, 99, 116]⟩, .slice none 0 0, .slice none 0 0, .slice none 0 0] 33)) w.heap.size 33 6 Hr.BasX (.slice (some ⟨w.heap.size, 0, none⟩) 2 2) (Hr.base.take 2)) := hide
    ⟨_, ⟨[.string ⟨#[79, 98, 106, 101, 99, 116]⟩, .bool false, .string ⟨#[]⟩, .slice none 0 0, .slice none 0 0, .slice none 0 0], _, rfl, Hr.bas_plain (by decide) (by decide), [.string ⟨#[69, 114, 114, 111, 114]⟩, .bool false, .string ⟨#[79, 98, 106, 101, 99, 116]⟩, .slice none 0 0, .slice none 0 0, .slice none 0 0], _, rfl, Hr.bas_plain (by decide) (by decide), rfl⟩, rfl, .inr ⟨w.heap.size, 2, _, rfl, Nat.le_refl _, heap_alloc_new w _, Nat.le_refl _, by decide, rfl, rfl⟩⟩
  go_enter Tryd.func40, Tryd.ntmps40
  go_wp2_with fail
  go_loopw [1, 8] (fun v i wr => ∃ k : Nat, k ≤ 6 ∧ i = .int .i64 k ∧ Hid (Below w.heap.size w wr) ∧ Hid (Ow.OwnX wr w.heap.size 33 6 Hr.BasX v (Hr.base.take (2 + k)))) (fun v i _ => 6 - (intOf i).toNat)
  case atStart => exact ⟨0, Nat.zero_le _, rfl, hide ((Below.refl _ _).alloc (Nat.le_refl _) _), HO0⟩
  case round =>
    obtain ⟨k, hk, rfl, HB, HO⟩ := hrel
    clear HO0
    obtain ⟨la, lc, rfl⟩ := HO.out.shape
    by_cases hlt : k < 6
    · have hlen : Hid ((Hr.base.take (2 + k)).length = 2 + k) := hide (by rw [List.length_take]; have : Hr.base.length = 8 := rfl; omega)
      have HT : Hid (∀ c, Hr.base[2 + k]? = some c → Hr.base.take (2 + (k + 1)) = Hr.base.take (2 + k) ++ [c]) := hide fun c hc => by rw [← Nat.add_assoc, List.take_add_one, hc]; rfl
      have hcs : k = 0 ∨ k = 1 ∨ k = 2 ∨ k = 3 ∨ k = 4 ∨ k = 5 := by omega
      generalize Hr.base.take (2 + k) = acc at *
      rcases hcs with rfl | rfl | rfl | rfl | rfl | rfl
      · have hix := Hr.ix0
        (try simp only [Int.cast_ofNat_Int, Int.natCast_one, Int.natCast_zero])
        go_wp2_with (at_builtin; refine Ow.wpList_app rfl (.tmp 11) (.tmp 14) 22 rfl Tryd.underlying22 hj hj0 hj1 hj2 (by decide) Hr.shp_bas rfl (HO.out.on ((Below.refl _ _).alloc (Nat.le_refl _) _) fun _ _ h => h) rfl (Hr.row_one (sz := 6) (heap_alloc_new wr _) (Hr.bas_plain (by decide) (by decide))) ?c1 (by decide) ?c2 ?_)
        case c1 => have := hlen.out; simp; omega
        case c2 => have := HB.out.size; simp; omega
        · intro v' w10 hown hgrow
          have HB10 := hide ((HB.out.alloc HB.out.size _).trans (Ow.bel_grown (HO.out.on ((Below.refl _ _).alloc (Nat.le_refl _) _) fun _ _ h => h) (by have := HB.out.size; simp; omega) hgrow))
          have HO10 : Hid (Ow.OwnX w10 w.heap.size 33 6 Hr.BasX v' (Hr.base.take (2 + (0 + 1)))) := hide (by rw [HT.out _ rfl]; exact hown)
          clear hown hgrow HO HB HT
          go_wp2_with fail
          go_roundw
          case rel => first | exact ⟨_, by decide, by go_num, HB10, HO10⟩ | ((repeat apply Exists.intro); exact ⟨⟨_, by decide, by go_num, HB10, HO10⟩, rfl⟩)
          case measure => simp [intOf]
      · have hix := Hr.ix1
        (try simp only [Int.cast_ofNat_Int, Int.natCast_one, Int.natCast_zero])
        go_wp2_with (at_builtin; refine Ow.wpList_app rfl (.tmp 11) (.tmp 14) 22 rfl Tryd.underlying22 hj hj0 hj1 hj2 (by decide) Hr.shp_bas rfl (HO.out.on ((Below.refl _ _).alloc (Nat.le_refl _) _) fun _ _ h => h) rfl (Hr.row_one (sz := 6) (heap_alloc_new wr _) (Hr.bas_plain (by decide) (by decide))) ?c1 (by decide) ?c2 ?_)
        case c1 => have := hlen.out; simp; omega
        case c2 => have := HB.out.size; simp; omega
        · intro v' w10 hown hgrow
          have HB10 := hide ((HB.out.alloc HB.out.size _).trans (Ow.bel_grown (HO.out.on ((Below.refl _ _).alloc (Nat.le_refl _) _) fun _ _ h => h) (by have := HB.out.size; simp; omega) hgrow))
          have HO10 : Hid (Ow.OwnX w10 w.heap.size 33 6 Hr.BasX v' (Hr.base.take (2 + (1 + 1)))) := hide (by rw [HT.out _ rfl]; exact hown)
          clear hown hgrow HO HB HT
          go_wp2_with fail
          go_roundw
          case rel => first | exact ⟨_, by decide, by go_num, HB10, HO10⟩ | ((repeat apply Exists.intro); exact ⟨⟨_, by decide, by go_num, HB10, HO10⟩, rfl⟩)
          case measure => simp [intOf]
      · have hix := Hr.ix2
        (try simp only [Int.cast_ofNat_Int, Int.natCast_one, Int.natCast_zero])
        go_wp2_with (at_builtin; refine Ow.wpList_app rfl (.tmp 11) (.tmp 14) 22 rfl Tryd.underlying22 hj hj0 hj1 hj2 (by decide) Hr.shp_bas rfl (HO.out.on ((Below.refl _ _).alloc (Nat.le_refl _) _) fun _ _ h => h) rfl (Hr.row_one (sz := 6) (heap_alloc_new wr _) (Hr.bas_plain (by decide) (by decide))) ?c1 (by decide) ?c2 ?_)
        case c1 => have := hlen.out; simp; omega
        case c2 => have := HB.out.size; simp; omega
        · intro v' w10 hown hgrow
          have HB10 := hide ((HB.out.alloc HB.out.size _).trans (Ow.bel_grown (HO.out.on ((Below.refl _ _).alloc (Nat.le_refl _) _) fun _ _ h => h) (by have := HB.out.size; simp; omega) hgrow))
          have HO10 : Hid (Ow.OwnX w10 w.heap.size 33 6 Hr.BasX v' (Hr.base.take (2 + (2 + 1)))) := hide (by rw [HT.out _ rfl]; exact hown)
          clear hown hgrow HO HB HT
          go_wp2_with fail
          go_roundw
          case rel => first | exact ⟨_, by decide, by go_num, HB10, HO10⟩ | ((repeat apply Exists.intro); exact ⟨⟨_, by decide, by go_num, HB10, HO10⟩, rfl⟩)
          case measure => simp [intOf]
      · have hix := Hr.ix3
        (try simp only [Int.cast_ofNat_Int, Int.natCast_one, Int.natCast_zero])
        go_wp2_with (at_builtin; refine Ow.wpList_app rfl (.tmp 11) (.tmp 14) 22 rfl Tryd.underlying22 hj hj0 hj1 hj2 (by decide) Hr.shp_bas rfl (HO.out.on ((Below.refl _ _).alloc (Nat.le_refl _) _) fun _ _ h => h) rfl (Hr.row_one (sz := 6) (heap_alloc_new wr _) (Hr.bas_plain (by decide) (by decide))) ?c1 (by decide) ?c2 ?_)
        case c1 => have := hlen.out; simp; omega
        case c2 => have := HB.out.size; simp; omega
        · intro v' w10 hown hgrow
          have HB10 := hide ((HB.out.alloc HB.out.size _).trans (Ow.bel_grown (HO.out.on ((Below.refl _ _).alloc (Nat.le_refl _) _) fun _ _ h => h) (by have := HB.out.size; simp; omega) hgrow))
          have HO10 : Hid (Ow.OwnX w10 w.heap.size 33 6 Hr.BasX v' (Hr.base.take (2 + (3 + 1)))) := hide (by rw [HT.out _ rfl]; exact hown)
          clear hown hgrow HO HB HT
          go_wp2_with fail
          go_roundw
          case rel => first | exact ⟨_, by decide, by go_num, HB10, HO10⟩ | ((repeat apply Exists.intro); exact ⟨⟨_, by decide, by go_num, HB10, HO10⟩, rfl⟩)
          case measure => simp [intOf]
      · have hix := Hr.ix4
        (try simp only [Int.cast_ofNat_Int, Int.natCast_one, Int.natCast_zero])
        go_wp2_with (at_builtin; refine Ow.wpList_app rfl (.tmp 11) (.tmp 14) 22 rfl Tryd.underlying22 hj hj0 hj1 hj2 (by decide) Hr.shp_bas rfl (HO.out.on ((Below.refl _ _).alloc (Nat.le_refl _) _) fun _ _ h => h) rfl (Hr.row_one (sz := 6) (heap_alloc_new wr _) (Hr.bas_plain (by decide) (by decide))) ?c1 (by decide) ?c2 ?_)
        case c1 => have := hlen.out; simp; omega
        case c2 => have := HB.out.size; simp; omega
        · intro v' w10 hown hgrow
          have HB10 := hide ((HB.out.alloc HB.out.size _).trans (Ow.bel_grown (HO.out.on ((Below.refl _ _).alloc (Nat.le_refl _) _) fun _ _ h => h) (by have := HB.out.size; simp; omega) hgrow))
          have HO10 : Hid (Ow.OwnX w10 w.heap.size 33 6 Hr.BasX v' (Hr.base.take (2 + (4 + 1)))) := hide (by rw [HT.out _ rfl]; exact hown)
          clear hown hgrow HO HB HT
          go_wp2_with fail
          go_roundw
          case rel => first | exact ⟨_, by decide, by go_num, HB10, HO10⟩ | ((repeat apply Exists.intro); exact ⟨⟨_, by decide, by go_num, HB10, HO10⟩, rfl⟩)
          case measure => simp [intOf]
      · have hix := Hr.ix5
        (try simp only [Int.cast_ofNat_Int, Int.natCast_one, Int.natCast_zero])
        go_wp2_with (at_builtin; refine Ow.wpList_app rfl (.tmp 11) (.tmp 14) 22 rfl Tryd.underlying22 hj hj0 hj1 hj2 (by decide) Hr.shp_bas rfl (HO.out.on ((Below.refl _ _).alloc (Nat.le_refl _) _) fun _ _ h => h) rfl (Hr.row_one (sz := 6) (heap_alloc_new wr _) (Hr.bas_plain (by decide) (by decide))) ?c1 (by decide) ?c2 ?_)
        case c1 => have := hlen.out; simp; omega
        case c2 => have := HB.out.size; simp; omega
        · intro v' w10 hown hgrow
          have HB10 := hide ((HB.out.alloc HB.out.size _).trans (Ow.bel_grown (HO.out.on ((Below.refl _ _).alloc (Nat.le_refl _) _) fun _ _ h => h) (by have := HB.out.size; simp; omega) hgrow))
          have HO10 : Hid (Ow.OwnX w10 w.heap.size 33 6 Hr.BasX v' (Hr.base.take (2 + (5 + 1)))) := hide (by rw [HT.out _ rfl]; exact hown)
          clear hown hgrow HO HB HT
          go_wp2_with fail
          go_roundw
          case rel => first | exact ⟨_, by decide, by go_num, HB10, HO10⟩ | ((repeat apply Exists.intro); exact ⟨⟨_, by decide, by go_num, HB10, HO10⟩, rfl⟩)
          case measure => simp [intOf]
    · have hk6 : k = 6 := by omega
      subst hk6
      have HOe : Hid (Ow.OwnX wr w.heap.size 33 6 Hr.BasX (.slice la (List.take (2 + 6) Hr.base).length lc) Hr.base) := HO
      generalize (List.take (2 + 6) Hr.base).length = nl at *
      go_wp2_with fail
      go_ret
      exact ⟨_, rfl, HOe.out, HB.out⟩
end Go.Proofs.YtildjihgklgibaaDoor

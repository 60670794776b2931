/- What the laws of this seat lean on: 2 texts. -/
import Derived.Test.YtbbbnciejmdpfabGreatDoorPkAo
import Derived.Test.YtbbbnciejmdpfabGreatDoorPkAa
import Derived.Test.YtbbbnciejmdpfabGreatDoorPkAb
set_option maxRecDepth 100000
set_option maxHeartbeats 64000000
set_option linter.unusedVariables false
set_option linter.unusedSimpArgs false
namespace Go.Proofs.YtbbbnciejmdpfabGreatDoor
open Go.RowKit
namespace Hr
def BasX (c : Pp.XCls) (ys : List Value) : Prop := ys = clsXL c (.slice none 0 0) (.slice none 0 0) (.slice none 0 0) /\ (c.ifaces = [] /\ c.fields = [] /\ c.methods = []) /\ c.name.length <= maxLen /\ c.super.length <= maxLen
theorem row_nil {α : Type} {w : World} {sz : Nat} {P : α -> List Value -> Prop} : RowX w sz P (.slice none 0 0) ([] : List α) := ⟨none, 0, rfl, Nat.le_refl _, .inl rfl⟩
theorem BasX.x {c : Pp.XCls} {ys : List Value} (h : BasX c ys) (w : World) : ClsX w c ys := by
 obtain ⟨rfl, ⟨h1, h2, h3⟩, h4, h5⟩ := h; refine ⟨_, _, _, rfl, ?_, ?_, ?_, h4, h5, ?_, ?_, ?_⟩
 · rw [h1]; exact row_nil
 · rw [h2]; exact row_nil
 · rw [h3]; exact row_nil
 · rw [h1]; exact Nat.zero_le _
 · rw [h2]; exact Nat.zero_le _
 · rw [h3]; exact Nat.zero_le _
theorem BasX.o {c : Pp.XCls} {ys : List Value} (h : BasX c ys) (w : World) (base : Nat) : Ow.ClsO w base c ys := by
 obtain ⟨rfl, ⟨h1, h2, h3⟩, h4, h5⟩ := h; refine ⟨_, _, _, rfl, ?_, ?_, ?_, h4, h5, ?_, ?_, ?_⟩
 · rw [h1]; exact Ow.OwnX.nil _ _ _ _ _
 · rw [h2]; exact Ow.OwnX.nil _ _ _ _ _
 · rw [h3]; exact Ow.OwnX.nil _ _ _ _ _
 · rw [h1]; exact Nat.zero_le _
 · rw [h2]; exact Nat.zero_le _
 · rw [h3]; exact Nat.zero_le _
theorem shp_bas : Ow.Shp BasX 6 := by
 rintro x ys ⟨rfl, _⟩; exact ⟨rfl, by intro u hu; simp [clsXL] at hu; rcases hu with rfl | rfl | rfl | rfl <;> rfl⟩
theorem bas_plain {n s : Pp.Bs} (h1 : n.length <= maxLen) (h2 : s.length <= maxLen) : BasX (plain n s) [.string ⟨n.toArray⟩, .bool false, .string ⟨s.toArray⟩, .slice none 0 0, .slice none 0 0, .slice none 0 0] := ⟨rfl, ⟨rfl, rfl, rfl⟩, h1, h2⟩
theorem ix0 (w : World) : (Instr.index 84 (.agg #[.string ⟨#[78, 117, 108, 108, 69, 114, 114, 111, 114]⟩, .string ⟨#[82, 97, 110, 103, 101, 69, 114, 114, 111, 114]⟩, .string ⟨#[67, 97, 115, 116, 69, 114, 114, 111, 114]⟩, .string ⟨#[78, 117, 109, 69, 114, 114, 111, 114]⟩, .string ⟨#[83, 105, 122, 101, 69, 114, 114, 111, 114]⟩, .string ⟨#[68, 101, 112, 116, 104, 69, 114, 114, 111, 114]⟩]) (.int .i64 0)).run Tryz.prog w = .ok (.string ⟨#[78, 117, 108, 108, 69, 114, 114, 111, 114]⟩) w := by kernel_rfl
theorem ix1 (w : World) : (Instr.index 84 (.agg #[.string ⟨#[78, 117, 108, 108, 69, 114, 114, 111, 114]⟩, .string ⟨#[82, 97, 110, 103, 101, 69, 114, 114, 111, 114]⟩, .string ⟨#[67, 97, 115, 116, 69, 114, 114, 111, 114]⟩, .string ⟨#[78, 117, 109, 69, 114, 114, 111, 114]⟩, .string ⟨#[83, 105, 122, 101, 69, 114, 114, 111, 114]⟩, .string ⟨#[68, 101, 112, 116, 104, 69, 114, 114, 111, 114]⟩]) (.int .i64 1)).run Tryz.prog w = .ok (.string ⟨#[82, 97, 110, 103, 101, 69, 114, 114, 111, 114]⟩) w := by kernel_rfl
theorem ix2 (w : World) : (Instr.index 84 (.agg #[.string ⟨#[78, 117, 108, 108, 69, 114, 114, 111, 114]⟩, .string ⟨#[82, 97, 110, 103, 101, 69, 114, 114, 111, 114]⟩, .string ⟨#[67, 97, 115, 116, 69, 114, 114, 111, 114]⟩, .string ⟨#[78, 117, 109, 69, 114, 114, 111, 114]⟩, .string ⟨#[83, 105, 122, 101, 69, 114, 114, 111, 114]⟩, .string ⟨#[68, 101, 112, 116, 104, 69, 114, 114, 111, 114]⟩]) (.int .i64 2)).run Tryz.prog w = .ok (.string ⟨#[67, 97, 115, 116, 69, 114, 114, 111, 114]⟩) w := by kernel_rfl
theorem ix3 (w : World) : (Instr.index 84 (.agg #[.string ⟨#[78, 117, 108, 108, 69, 114, 114, 111, 114]⟩, .string ⟨#[82, 97, 110, 103, 101, 69, 114, 114, 111, 114]⟩, .string ⟨#[67, 97, 115, 116, 69, 114, 114, 111, 114]⟩, .string ⟨#[78, 117, 109, 69, 114, 114, 111, 114]⟩, .string ⟨#[83, 105, 122, 101, 69, 114, 114, 111, 114]⟩, .string ⟨#[68, 101, 112, 116, 104, 69, 114, 114, 111, 114]⟩]) (.int .i64 3)).run Tryz.prog w = .ok (.string ⟨#[78, 117, 109, 69, 114, 114, 111, 114]⟩) w := by kernel_rfl
theorem ix4 (w : World) : (Instr.index 84 (.agg #[.string ⟨#[78, 117, 108, 108, 69, 114, 114, 111, 114]⟩, .string ⟨#[82, 97, 110, 103, 101, 69, 114, 114, 111, 114]⟩, .string ⟨#[67, 97, 115, 116, 69, 114, 114, 111, 114]⟩, .string ⟨#[78, 117, 109, 69, 114, 114, 111, 114]⟩, .string ⟨#[83, 105, 122, 101, 69, 114, 114, 111, 114]⟩, .string ⟨#[68, 101, 112, 116, 104, 69, 114, 114, 111, 114]⟩]) (.int .i64 4)).run Tryz.prog w = .ok (.string ⟨#[83, 105, 122, 101, 69, 114, 114, 111, 114]⟩) w := by kernel_rfl
theorem ix5 (w : World) : (Instr.index 84 (.agg #[.string ⟨#[78, 117, 108, 108, 69, 114, 114, 111, 114]⟩, .string ⟨#[82, 97, 110, 103, 101, 69, 114, 114, 111, 114]⟩, .string ⟨#[67, 97, 115, 116, 69, 114, 114, 111, 114]⟩, .string ⟨#[78, 117, 109, 69, 114, 114, 111, 114]⟩, .string ⟨#[83, 105, 122, 101, 69, 114, 114, 111, 114]⟩, .string ⟨#[68, 101, 112, 116, 104, 69, 114, 114, 111, 114]⟩]) (.int .i64 5)).run Tryz.prog w = .ok (.string ⟨#[68, 101, 112, 116, 104, 69, 114, 114, 111, 114]⟩) w := by kernel_rfl
end Hr
theorem standing_any (w : World) :
 Calls Tryz.prog 17 #[] w fun e w' => ∃ v, e = .returned v /\ Ow.OwnX w' w.heap.size 33 6 Hr.BasX v Hr.base /\ Below w.heap.size w w' := by
 obtain ⟨j0, hj, hj0, hj1, hj2⟩ := Ow.info_of Ow.i_cls
 have HO0 : Hid (Ow.OwnX (w.alloc (.cells #[.string ⟨#[79, 98, 106, 101, 99, 116]⟩, .bool false, .string ⟨#[]⟩, .slice none 0 0, .slice none 0 0, .slice none 0 0, .string ⟨#[69, 114, 114, 111, 114]⟩, .bool false, .string ⟨#[79, 98, 106, 101, 99, 116]⟩, .slice none 0 0, .slice none 0 0, .slice none 0 0] 33)) w.heap.size 33 6 Hr.BasX (.slice (some ⟨w.heap.size, 0, none⟩) 2 2) (Hr.base.take 2)) := hide
  ⟨_, ⟨[.string ⟨#[79, 98, 106, 101, 99, 116]⟩, .bool false, .string ⟨#[]⟩, .slice none 0 0, .slice none 0 0, .slice none 0 0], _, rfl, Hr.bas_plain (by decide) (by decide), [.string ⟨#[69, 114, 114, 111, 114]⟩, .bool false, .string ⟨#[79, 98, 106, 101, 99, 116]⟩, .slice none 0 0, .slice none 0 0, .slice none 0 0], _, rfl, Hr.bas_plain (by decide) (by decide), rfl⟩, rfl, .inr ⟨w.heap.size, 2, _, rfl, Nat.le_refl _, heap_alloc_new w _, Nat.le_refl _, by decide, rfl, rfl⟩⟩
 go_enter Tryz.func17, Tryz.ntmps17; go_wp2_with fail
 go_loopw [1, 8] (fun v i wr => ∃ k : Nat, k <= 6 /\ i = .int .i64 k /\ Hid (Below w.heap.size w wr) /\ Hid (Ow.OwnX wr w.heap.size 33 6 Hr.BasX v (Hr.base.take (2 + k)))) (fun v i _ => 6 - (intOf i).toNat)
 case atStart => exact ⟨0, Nat.zero_le _, rfl, hide ((Below.refl _ _).alloc (Nat.le_refl _) _), HO0⟩
 case round =>
  obtain ⟨k, hk, rfl, HB, HO⟩ := hrel; clear HO0; obtain ⟨la, lc, rfl⟩ := HO.out.shape; by_cases hlt : k < 6
  · have hlen : Hid ((Hr.base.take (2 + k)).length = 2 + k) := hide (by rw [List.length_take]; have : Hr.base.length = 8 := rfl; omega)
    have HT : Hid (∀ c, Hr.base[2 + k]? = some c -> Hr.base.take (2 + (k + 1)) = Hr.base.take (2 + k) ++ [c]) := hide fun c hc => by rw [<- Nat.add_assoc, List.take_add_one, hc]; rfl
    have hcs : k = 0 \/ k = 1 \/ k = 2 \/ k = 3 \/ k = 4 \/ k = 5 := by omega
    generalize Hr.base.take (2 + k) = acc at *
    rcases hcs with rfl | rfl | rfl | rfl | rfl | rfl
    · have hix := Hr.ix0
      (try simp only [Int.cast_ofNat_Int, Int.natCast_one, Int.natCast_zero])
      go_wp2_with (at_builtin; refine Ow.wpList_app rfl (.tmp 11) (.tmp 14) 22 rfl Tryz.underlying22 hj hj0 hj1 hj2 (by decide) Hr.shp_bas rfl (HO.out.on ((Below.refl _ _).alloc (Nat.le_refl _) _) fun _ _ h => h) rfl (Hr.row_one (sz := 6) (heap_alloc_new wr _) (Hr.bas_plain (by decide) (by decide))) ?c1 (by decide) ?c2 ?_)
      case c1 => have := hlen.out; simp; omega
      case c2 => have := HB.out.size; simp; omega
      · intro v' w10 hown hgrow
        have HB10 := hide ((HB.out.alloc HB.out.size _).trans (Ow.bel_grown (HO.out.on ((Below.refl _ _).alloc (Nat.le_refl _) _) fun _ _ h => h) (by have := HB.out.size; simp; omega) hgrow))
        have HO10 : Hid (Ow.OwnX w10 w.heap.size 33 6 Hr.BasX v' (Hr.base.take (2 + (0 + 1)))) := hide (by rw [HT.out _ rfl]; exact hown)
        clear hown hgrow HO HB HT; go_wp2_with fail
        go_roundw
        case rel => first | exact ⟨_, by decide, by go_num, HB10, HO10⟩ | ((repeat apply Exists.intro); exact ⟨⟨_, by decide, by go_num, HB10, HO10⟩, rfl⟩)
        case measure => simp [intOf]
    · have hix := Hr.ix1
      (try simp only [Int.cast_ofNat_Int, Int.natCast_one, Int.natCast_zero])
      go_wp2_with (at_builtin; refine Ow.wpList_app rfl (.tmp 11) (.tmp 14) 22 rfl Tryz.underlying22 hj hj0 hj1 hj2 (by decide) Hr.shp_bas rfl (HO.out.on ((Below.refl _ _).alloc (Nat.le_refl _) _) fun _ _ h => h) rfl (Hr.row_one (sz := 6) (heap_alloc_new wr _) (Hr.bas_plain (by decide) (by decide))) ?c1 (by decide) ?c2 ?_)
      case c1 => have := hlen.out; simp; omega
      case c2 => have := HB.out.size; simp; omega
      · intro v' w10 hown hgrow
        have HB10 := hide ((HB.out.alloc HB.out.size _).trans (Ow.bel_grown (HO.out.on ((Below.refl _ _).alloc (Nat.le_refl _) _) fun _ _ h => h) (by have := HB.out.size; simp; omega) hgrow))
        have HO10 : Hid (Ow.OwnX w10 w.heap.size 33 6 Hr.BasX v' (Hr.base.take (2 + (1 + 1)))) := hide (by rw [HT.out _ rfl]; exact hown)
        clear hown hgrow HO HB HT; go_wp2_with fail
        go_roundw
        case rel => first | exact ⟨_, by decide, by go_num, HB10, HO10⟩ | ((repeat apply Exists.intro); exact ⟨⟨_, by decide, by go_num, HB10, HO10⟩, rfl⟩)
        case measure => simp [intOf]
    · have hix := Hr.ix2
      (try simp only [Int.cast_ofNat_Int, Int.natCast_one, Int.natCast_zero])
      go_wp2_with (at_builtin; refine Ow.wpList_app rfl (.tmp 11) (.tmp 14) 22 rfl Tryz.underlying22 hj hj0 hj1 hj2 (by decide) Hr.shp_bas rfl (HO.out.on ((Below.refl _ _).alloc (Nat.le_refl _) _) fun _ _ h => h) rfl (Hr.row_one (sz := 6) (heap_alloc_new wr _) (Hr.bas_plain (by decide) (by decide))) ?c1 (by decide) ?c2 ?_)
      case c1 => have := hlen.out; simp; omega
      case c2 => have := HB.out.size; simp; omega
      · intro v' w10 hown hgrow
        have HB10 := hide ((HB.out.alloc HB.out.size _).trans (Ow.bel_grown (HO.out.on ((Below.refl _ _).alloc (Nat.le_refl _) _) fun _ _ h => h) (by have := HB.out.size; simp; omega) hgrow))
        have HO10 : Hid (Ow.OwnX w10 w.heap.size 33 6 Hr.BasX v' (Hr.base.take (2 + (2 + 1)))) := hide (by rw [HT.out _ rfl]; exact hown)
        clear hown hgrow HO HB HT; go_wp2_with fail
        go_roundw
        case rel => first | exact ⟨_, by decide, by go_num, HB10, HO10⟩ | ((repeat apply Exists.intro); exact ⟨⟨_, by decide, by go_num, HB10, HO10⟩, rfl⟩)
        case measure => simp [intOf]
    · have hix := Hr.ix3
      (try simp only [Int.cast_ofNat_Int, Int.natCast_one, Int.natCast_zero])
      go_wp2_with (at_builtin; refine Ow.wpList_app rfl (.tmp 11) (.tmp 14) 22 rfl Tryz.underlying22 hj hj0 hj1 hj2 (by decide) Hr.shp_bas rfl (HO.out.on ((Below.refl _ _).alloc (Nat.le_refl _) _) fun _ _ h => h) rfl (Hr.row_one (sz := 6) (heap_alloc_new wr _) (Hr.bas_plain (by decide) (by decide))) ?c1 (by decide) ?c2 ?_)
      case c1 => have := hlen.out; simp; omega
      case c2 => have := HB.out.size; simp; omega
      · intro v' w10 hown hgrow
        have HB10 := hide ((HB.out.alloc HB.out.size _).trans (Ow.bel_grown (HO.out.on ((Below.refl _ _).alloc (Nat.le_refl _) _) fun _ _ h => h) (by have := HB.out.size; simp; omega) hgrow))
        have HO10 : Hid (Ow.OwnX w10 w.heap.size 33 6 Hr.BasX v' (Hr.base.take (2 + (3 + 1)))) := hide (by rw [HT.out _ rfl]; exact hown)
        clear hown hgrow HO HB HT; go_wp2_with fail
        go_roundw
        case rel => first | exact ⟨_, by decide, by go_num, HB10, HO10⟩ | ((repeat apply Exists.intro); exact ⟨⟨_, by decide, by go_num, HB10, HO10⟩, rfl⟩)
        case measure => simp [intOf]
    · have hix := Hr.ix4
      (try simp only [Int.cast_ofNat_Int, Int.natCast_one, Int.natCast_zero])
      go_wp2_with (at_builtin; refine Ow.wpList_app rfl (.tmp 11) (.tmp 14) 22 rfl Tryz.underlying22 hj hj0 hj1 hj2 (by decide) Hr.shp_bas rfl (HO.out.on ((Below.refl _ _).alloc (Nat.le_refl _) _) fun _ _ h => h) rfl (Hr.row_one (sz := 6) (heap_alloc_new wr _) (Hr.bas_plain (by decide) (by decide))) ?c1 (by decide) ?c2 ?_)
      case c1 => have := hlen.out; simp; omega
      case c2 => have := HB.out.size; simp; omega
      · intro v' w10 hown hgrow
        have HB10 := hide ((HB.out.alloc HB.out.size _).trans (Ow.bel_grown (HO.out.on ((Below.refl _ _).alloc (Nat.le_refl _) _) fun _ _ h => h) (by have := HB.out.size; simp; omega) hgrow))
        have HO10 : Hid (Ow.OwnX w10 w.heap.size 33 6 Hr.BasX v' (Hr.base.take (2 + (4 + 1)))) := hide (by rw [HT.out _ rfl]; exact hown)
        clear hown hgrow HO HB HT; go_wp2_with fail
        go_roundw
        case rel => first | exact ⟨_, by decide, by go_num, HB10, HO10⟩ | ((repeat apply Exists.intro); exact ⟨⟨_, by decide, by go_num, HB10, HO10⟩, rfl⟩)
        case measure => simp [intOf]
    · have hix := Hr.ix5
      (try simp only [Int.cast_ofNat_Int, Int.natCast_one, Int.natCast_zero])
      go_wp2_with (at_builtin; refine Ow.wpList_app rfl (.tmp 11) (.tmp 14) 22 rfl Tryz.underlying22 hj hj0 hj1 hj2 (by decide) Hr.shp_bas rfl (HO.out.on ((Below.refl _ _).alloc (Nat.le_refl _) _) fun _ _ h => h) rfl (Hr.row_one (sz := 6) (heap_alloc_new wr _) (Hr.bas_plain (by decide) (by decide))) ?c1 (by decide) ?c2 ?_)
      case c1 => have := hlen.out; simp; omega
      case c2 => have := HB.out.size; simp; omega
      · intro v' w10 hown hgrow
        have HB10 := hide ((HB.out.alloc HB.out.size _).trans (Ow.bel_grown (HO.out.on ((Below.refl _ _).alloc (Nat.le_refl _) _) fun _ _ h => h) (by have := HB.out.size; simp; omega) hgrow))
        have HO10 : Hid (Ow.OwnX w10 w.heap.size 33 6 Hr.BasX v' (Hr.base.take (2 + (5 + 1)))) := hide (by rw [HT.out _ rfl]; exact hown)
        clear hown hgrow HO HB HT; go_wp2_with fail
        go_roundw
        case rel => first | exact ⟨_, by decide, by go_num, HB10, HO10⟩ | ((repeat apply Exists.intro); exact ⟨⟨_, by decide, by go_num, HB10, HO10⟩, rfl⟩)
        case measure => simp [intOf]
  · have hk6 : k = 6 := by omega
    subst hk6; have HOe : Hid (Ow.OwnX wr w.heap.size 33 6 Hr.BasX (.slice la (List.take (2 + 6) Hr.base).length lc) Hr.base) := HO; generalize (List.take (2 + 6) Hr.base).length = nl at *
    go_wp2_with fail; go_ret; exact ⟨_, rfl, HOe.out, HB.out⟩
theorem fresh_any (s : List UInt8) (hs : s.length <= maxLen) (w : World) (ht : TabS w) :
 Calls Tryz.prog 85 #[.string ⟨s.toArray⟩] w fun e w' => e = .returned (.bool (Pp.freshB s)) /\ w' = w := by
 have hN := hide (Name_any ⟨s.toArray⟩ (by simpa [ByteArray.size] using hs) w)
 have hK := hide (Kept_any s w ht); have hF : Hid (Pp.freshB s = (Lx.nameL s && !Pp.keptL s)) := rfl; obtain ⟨b, hb⟩ : ∃ b, b = Lx.nameL s := ⟨_, rfl⟩; have hN2 : Hid (Calls Tryz.prog 101 #[.string ⟨s.toArray⟩] w fun e w' => e = .returned (.bool b) /\ w' = w) := by rw [hb]; exact hN
 rw [<- hb] at hF; generalize (⟨s.toArray⟩ : ByteArray) = S at *
 clear hN ht hb; cases b with
 | false =>
   go_enter Tryz.func85, Tryz.ntmps85; go_wp2_with fail; refine hN2.out.mono ?_; rintro e wq ⟨rfl, hwq⟩; subst hwq; go_wp2_with fail; go_ret; exact ⟨by rw [hF.out]; rfl, rfl⟩
 | true =>
   go_enter Tryz.func85, Tryz.ntmps85; go_wp2_with fail; refine hN2.out.mono ?_; rintro e wq ⟨rfl, hwq⟩; have hwq := hwq.symm; subst hwq; go_wp2_with fail; refine hK.out.mono ?_; rintro e wq ⟨rfl, hwq⟩; have hwq := hwq.symm; subst hwq; go_wp2_with fail; go_ret; exact ⟨by rw [hF.out]; rfl, rfl⟩
theorem within_any (n lo hi : Int) (w : World) :
 Calls Tryz.prog 122 #[.int .i64 n, .int .i64 lo, .int .i64 hi] w fun e w' => e = .returned (.bool (Pp.withinB n lo hi)) /\ w' = w := by
 go_enter Tryz.func122, Tryz.ntmps122; by_cases h1 : lo <= n
 · go_wp2_with fail
   go_ret; exact ⟨ret_bool (by simp [Pp.withinB, h1]), rfl⟩
 · go_wp2_with fail
   go_ret; exact ⟨ret_bool (by simp [Pp.withinB]; omega), rfl⟩
theorem isArgument_any (s : List UInt8) (has : Bool) (hs : s.length <= maxLen) (w : World) (ht : TabS w) :
 Calls Tryz.prog 140 #[.string ⟨s.toArray⟩, .bool has] w fun e w' => e = .returned (.bool (if has = true then Pp.freshB s else s == [])) /\ w' = w := by
 have hF := hide (fresh_any s hs w ht); clear ht; cases has with
 | true =>
   go_enter Tryz.func140, Tryz.ntmps140; go_wp2_with fail; refine hF.out.mono ?_; rintro e wq ⟨rfl, hwq⟩; have hwq := hwq.symm; subst hwq; go_wp2_with fail; go_ret; exact ⟨rfl, rfl⟩
 | false =>
   go_enter Tryz.func140, Tryz.ntmps140; go_wp2_with fail; go_ret; exact ⟨ret_bool (by cases s <;> simp), rfl⟩
theorem isType_any (t : Pp.Ty) (hs : t.name.length <= maxLen) (w : World) (ht : TabS w) :
 Calls Tryz.prog 103 #[.agg #[.int .i64 t.kind, .string ⟨t.name.toArray⟩]] w fun e w' => e = .returned (.bool (Pp.typeB t)) /\ Below w.heap.size w w' := by
 obtain ⟨k, n⟩ := t; simp only at hs ⊢; have hF := hide (fun w' (hb : Below w.heap.size w w') => fresh_any n hs w' (ht.below hb)); have hE : Hid (n = [] ↔ (⟨n.toArray⟩ : ByteArray) = ⟨#[]⟩) := hide ⟨fun h => by rw [h], fun h => by have := congrArg (fun x : ByteArray => x.data.toList) h; simpa using this⟩
 clear ht; by_cases h1 : k = 1 \/ k = 2 \/ k = 4
 · have hT : Hid (Pp.typeB ⟨k, n⟩ = (n == [])) := hide (by unfold Pp.typeB; rw [if_pos h1])
   rcases h1 with rfl | rfl | rfl
   all_goals (go_enter Tryz.func103, Tryz.ntmps103; go_wp2_with fail; go_ret; exact ⟨ret_bool (by rw [hT.out]; cases n <;> simp), (Below.refl _ _).alloc (Nat.le_refl _) _⟩)
 · by_cases h2 : k = 3 \/ k = 5
   · have hT : Hid (Pp.typeB ⟨k, n⟩ = Pp.freshB n) := hide (by unfold Pp.typeB; rw [if_neg h1, if_pos h2])
     rcases h2 with rfl | rfl
     all_goals (clear h1; go_enter Tryz.func103, Tryz.ntmps103; go_wp2_with fail; refine (hF.out _ ((Below.refl _ _).alloc (Nat.le_refl _) _)).mono ?_; rintro e wq ⟨rfl, hwq⟩; subst hwq; go_wp2_with fail; go_ret; exact ⟨by rw [hT.out]; rfl, (Below.refl _ _).alloc (Nat.le_refl _) _⟩)
   · have hT : Hid (Pp.typeB ⟨k, n⟩ = false) := hide (by unfold Pp.typeB; rw [if_neg h1, if_neg h2])
     have e1 : (k == 1) = false := by simp; omega
     have e2 : (k == 2) = false := by simp; omega
     have e3 : (k == 3) = false := by simp; omega
     have e4 : (k == 4) = false := by simp; omega
     have e5 : (k == 5) = false := by simp; omega
     clear h1 h2; go_enter Tryz.func103, Tryz.ntmps103; go_wp2_with fail; go_ret; exact ⟨by rw [hT.out]; rfl, (Below.refl _ _).alloc (Nat.le_refl _) _⟩
theorem isField_any (f : Pp.Fld) (h1 : f.name.length <= maxLen) (h2 : f.ty.name.length <= maxLen) (w : World) (ht : TabS w) :
 Calls Tryz.prog 89 #[.agg #[.string ⟨f.name.toArray⟩, .int .i64 f.ty.kind, .string ⟨f.ty.name.toArray⟩, .bool f.stat]] w fun e w' => e = .returned (.bool (Pp.freshB f.name && Pp.typeB f.ty)) /\ Below w.heap.size w w' := by
 obtain ⟨n, ty, st⟩ := f; simp only at h1 h2 ⊢; have hF := hide (fun w' (hb : Below w.heap.size w w') => fresh_any n h1 w' (ht.below hb)); have hT := hide (fun w' (hb : Below w.heap.size w w') => isType_any ty h2 w' (ht.below hb)); clear ht h1 h2; generalize (⟨n.toArray⟩ : ByteArray) = S at *
 generalize (⟨ty.name.toArray⟩ : ByteArray) = S2 at *
 generalize ty.kind = kd at *
 generalize Pp.typeB ty = b2 at *
 generalize Pp.freshB n = b1 at *
 cases b1 with
 | false =>
   go_enter Tryz.func89, Tryz.ntmps89; go_wp2_with fail; refine (hF.out _ ((Below.refl _ _).alloc (Nat.le_refl _) _)).mono ?_; rintro e wq ⟨rfl, hwq⟩; subst hwq; go_wp2_with fail; go_ret; exact ⟨rfl, (Below.refl _ _).alloc (Nat.le_refl _) _⟩
 | true =>
   go_enter Tryz.func89, Tryz.ntmps89; go_wp2_with fail; refine (hF.out _ ((Below.refl _ _).alloc (Nat.le_refl _) _)).mono ?_; rintro e wq ⟨rfl, hwq⟩; subst hwq; go_wp2_with fail; refine (hT.out _ ((Below.refl _ _).alloc (Nat.le_refl _) _)).mono ?_; rintro e w2 ⟨rfl, hb2⟩; go_wp2_with fail; go_ret; exact ⟨by simp, ((Below.refl _ _).alloc (Nat.le_refl _) _).trans (hb2.mono (by simp))⟩
end Go.Proofs.YtbbbnciejmdpfabGreatDoor

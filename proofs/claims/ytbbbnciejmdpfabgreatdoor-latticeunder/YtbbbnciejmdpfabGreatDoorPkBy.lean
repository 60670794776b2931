/- What the laws of this seat lean on: 5 texts. -/
import Derived.Test.YtbbbnciejmdpfabGreatDoorPkBx
import Derived.Deep.RegionHeld3
import Derived.Test.YtbbbnciejmdpfabGreatDoorPkBt
set_option maxRecDepth 100000
set_option maxHeartbeats 64000000
set_option linter.unusedVariables false
set_option linter.unusedSimpArgs false
namespace Go.Proofs.YtbbbnciejmdpfabGreatDoor
open Go.RowKit
theorem lref_any (nb : ByteArray) (w : World) :
 Calls Tryz.prog 8 #[.string nb] w fun e w' => e = .returned (.agg #[.int .i64 3, .string nb]) /\ Below w.heap.size w w' := by
 have HB0 := hide (fun o => (Below.refl w.heap.size w).alloc (Nat.le_refl _) o); go_enter Tryz.func8, Tryz.ntmps8; go_wp2_with fail; refine bodyPost_ret (v := .agg #[.int .i64 3, .string nb]) (by simp [results, Tryz.results8, go_sem, *]) rfl ?_
 exact ⟨rfl, HB0.out _⟩
namespace Lx
def nullN : Pp.Bs := [78, 117, 108, 108, 69, 114, 114, 111, 114]
def numN : Pp.Bs := [78, 117, 109, 69, 114, 114, 111, 114]
theorem wake_meet : meetX [] ⟨3, nullN⟩ ⟨3, numN⟩ = ((3, [69, 114, 114, 111, 114]), 0) := by kernel_rfl
theorem wake_right : lookOk [] [⟨3, Hr.objN⟩] = true := by kernel_rfl
theorem wake_fits : fitsX [] ⟨6, []⟩ ⟨3, Hr.errN⟩ = true := by kernel_rfl
theorem wake_not : fitsX [] ⟨2, []⟩ ⟨3, Hr.errN⟩ = false := by kernel_rfl
theorem prog_nil (w : World) : ProgX w (.slice none 0 0) [] := ⟨row_nil _ _ _, Nat.zero_le _⟩
theorem light_nil : Pp.Light [] := ⟨Nat.zero_le _, by intro c hc; cases hc⟩
end Lx
theorem LWakes_any (w : World) (ht : TabS w) :
 Calls Tryz.prog 10 #[] w fun e w' => e = .returned (.bool true) /\ Below w.heap.size w w' := by
 have HT := hide (fun wx (hb : Below w.heap.size w wx) => ht.below hb); clear ht; go_enter Tryz.func10, Tryz.ntmps10; go_wp2_with fail; refine (lref_any _ _).mono ?_; rintro e w1 ⟨rfl, hb1⟩; have HB1 := hide hb1; clear hb1; go_wp2_with fail; refine (lref_any _ _).mono ?_; rintro e w2 ⟨rfl, hb2⟩; have HB2 := hide (HB1.out.trans (hb2.mono HB1.out.size)); clear hb2 HB1; go_wp2_with fail; have HM := LMeet_any [] (.slice none 0 0) ⟨3, Lx.nullN⟩ ⟨3, Lx.numN⟩ w2 (HT.out _ HB2.out) (Lx.prog_nil _) Lx.light_nil (by decide) (by decide)
 rw [Lx.wake_meet] at HM; refine HM.mono ?_; clear HM; rintro e w3 ⟨rfl, hb3⟩; have HB3 := hide (HB2.out.trans (hb3.mono HB2.out.size)); clear hb3 HB2; have HX3 := hide (heap_alloc_new w3 (.cells #[.int .i64 3, .string ⟨#[69, 114, 114, 111, 114]⟩] 36)); have HB4 := hide (HB3.out.alloc HB3.out.size (.cells #[.int .i64 3, .string ⟨#[69, 114, 114, 111, 114]⟩] 36))
 have HRi : Hid (∀ wz, Below w.heap.size w wz -> Calls Tryz.prog 25 #[.agg #[.slice none 0 0], .agg #[.int .i64 3, .string ⟨#[79, 98, 106, 101, 99, 116]⟩]] wz fun e w' => e = .returned (.bool true) /\ Below wz.heap.size wz w') := hide (by
  intro wz hb; have h := LRight_any [] (.slice none 0 0) ⟨3, Hr.objN⟩ wz (HT.out _ hb) (Lx.prog_nil _) Lx.light_nil (by decide)
  rw [Lx.wake_right] at h
  exact h)
 have HF1 : Hid (∀ wz, Below w.heap.size w wz -> Calls Tryz.prog 7 #[.agg #[.slice none 0 0], .agg #[.int .i64 6, .string ⟨#[]⟩], .agg #[.int .i64 3, .string ⟨#[69, 114, 114, 111, 114]⟩]] wz fun e w' => e = .returned (.bool true) /\ Below wz.heap.size wz w') := hide (by
  intro wz hb; have h := LFits_any [] (.slice none 0 0) ⟨6, []⟩ ⟨3, Hr.errN⟩ wz (HT.out _ hb) (Lx.prog_nil _) Lx.light_nil (by decide) (by decide)
  rw [Lx.wake_fits] at h
  exact h)
 have HF2 : Hid (∀ wz, Below w.heap.size w wz -> Calls Tryz.prog 7 #[.agg #[.slice none 0 0], .agg #[.int .i64 2, .string ⟨#[]⟩], .agg #[.int .i64 3, .string ⟨#[69, 114, 114, 111, 114]⟩]] wz fun e w' => e = .returned (.bool false) /\ Below wz.heap.size wz w') := hide (by
  intro wz hb; have h := LFits_any [] (.slice none 0 0) ⟨2, []⟩ ⟨3, Hr.errN⟩ wz (HT.out _ hb) (Lx.prog_nil _) Lx.light_nil (by decide) (by decide)
  rw [Lx.wake_not] at h
  exact h)
 have HSz : w3.heap.size < (w3.alloc (.cells #[.int .i64 3, .string ⟨#[69, 114, 114, 111, 114]⟩] 36)).heap.size := by simp
 go_wp2_with fail; generalize w3.alloc (.cells #[.int .i64 3, .string ⟨#[69, 114, 114, 111, 114]⟩] 36) = wA at *
 have HS := hide (fun wz (hb : Below wA.heap.size wA wz) => show wz.cell? ⟨w3.heap.size, 0, none⟩ = some (.int .i64 3) /\ wz.cell? ⟨w3.heap.size, 1, none⟩ = some (.string ⟨#[69, 114, 114, 111, 114]⟩) from
  ⟨cell_box ((hb.block _ HSz).trans HX3.out) 0, cell_box ((hb.block _ HSz).trans HX3.out) 1⟩)
 have HBz : Hid (Below wA.heap.size wA wA.drew) := hide (Below.drew (Below.refl _ _)); clear HT HSz
 go_region_held3 (fun wz => wz.cell? ⟨w3.heap.size, 0, none⟩ = some (.int .i64 3) /\ wz.cell? ⟨w3.heap.size, 1, none⟩ = some (.string ⟨#[69, 114, 114, 111, 114]⟩)) (exact HS.out _ HBz.out)
  (first
    | (go_at_call 8
       with_reducible refine (lref_any _ _).mono ?_
       rintro e w5 ⟨rfl, hb5⟩; have HBz := hide (HBz.out.trans (hb5.mono HBz.out.size))
       clear hb5)
    | (go_at_call 25
       with_reducible refine (HRi.out _ (HB4.out.trans (HBz.out.mono HB4.out.size))).mono ?_
       rintro e w5 ⟨rfl, hb5⟩; have HBz := hide (HBz.out.trans (hb5.mono HBz.out.size))
       clear hb5)
    | (go_at_call 7
       with_reducible refine (HF1.out _ (HB4.out.trans (HBz.out.mono HB4.out.size))).mono ?_
       rintro e w5 ⟨rfl, hb5⟩; have HBz := hide (HBz.out.trans (hb5.mono HBz.out.size))
       clear hb5)
    | (go_at_call 7
       with_reducible refine (HF2.out _ (HB4.out.trans (HBz.out.mono HB4.out.size))).mono ?_
       rintro e w5 ⟨rfl, hb5⟩; have HBz := hide (HBz.out.trans (hb5.mono HBz.out.size))
       clear hb5)
    | fail)
 all_goals
  go_wp2_with fail; go_ret; exact ⟨rfl, HB4.out.trans (HBz.out.mono HB4.out.size)⟩
namespace Lx
open Pp Hr
def rightT (cs : List XCls) (t : Ty) : Bool := rightL (allL cs) t.kind t.name
theorem look_two' {cs : List XCls} (he : Ly.layE cs = 0) {a b : Ty} (ha : rightT cs a = true) (hb : rightT cs b = true) : lookOk cs [a, b] = true := by
 unfold rightT at ha hb; unfold lookOk allR; rw [he]; simp [ha, hb]
theorem fitsX_yes {cs : List XCls} (he : Ly.layE cs = 0) {a b : Ty} (ha : rightT cs a = true) (hb : rightT cs b = true) : fitsX cs a b = fitsH cs a.kind b.kind a.name b.name := by
 unfold fitsX; rw [look_two' he ha hb]; rfl
theorem fits_self (cs : List XCls) (k : Int) (n : Bs) : fitsH cs k k n n = true := by
 unfold fitsH; exact if_pos (.inl ⟨rfl, rfl⟩)
end Lx
namespace Lx
open Pp Hr
theorem known_some {cs : List XCls} (he : errL cs = 0) {a : Bs} (h : Known cs a) : (placeL (allL cs) a).isSome = true := by
 obtain ⟨p, c, hc, rfl⟩ := h; obtain ⟨_, ho, _⟩ := err_zero he; rw [ho p c hc]; rfl
theorem right_known3 {cs : List XCls} (he : errL cs = 0) {a : Bs} (h : Known cs a) : rightL (allL cs) 3 a = true := by
 unfold rightL; rw [if_neg (by decide), if_pos (by decide)]
 exact known_some he h
section
variable {cs : List XCls} {ka kb : Int} {na nb : Bs} (he : errL cs = 0) (ha : rightL (allL cs) ka na = true) (hb : rightL (allL cs) kb nb = true)
include he ha hb
end
theorem base_short : ∀ c ∈ base, c.name.length <= 60 := by decide
theorem known_len {cs : List XCls} (hl : Light cs) {a : Bs} (h : Known cs a) : a.length <= maxLen := by
 obtain ⟨p, c, hc, rfl⟩ := h; have hm := List.mem_of_getElem? hc
 have : c.name.length <= 60 := by
  rcases List.mem_append.1 hm with h | h
  · exact base_short c h
  · exact (hl.2 c h).1.2.2.2.1
 unfold maxLen; omega
end Lx
namespace Lx
open Pp Hr
theorem right_rows {cs : List XCls} (he : errL cs = 0) {a : Bs} (h : Known cs a) : rightL (allL cs) 5 a = true := by
 unfold rightL; rw [if_neg (by decide), if_pos (by decide)]
 exact known_some he h
end Lx
theorem mod_at (n : Int) (c : Nat) (hc : 0 < c) (hc2 : c <= 100000) : ∃ m : Nat, m < c /\ wrap64 ((IntKind.u64.wrap n).tmod (c : Int)) = (m : Int) := by
 have h0 : 0 <= IntKind.u64.wrap n := by
  rw [IntKind.wrap_u64]; omega
 generalize IntKind.u64.wrap n = u at h0; have h1 : 0 <= u.tmod (c : Int) := Int.tmod_nonneg _ h0; have h2 : u.tmod (c : Int) < (c : Int) := Int.tmod_lt_of_pos _ (by omega)
 generalize u.tmod (c : Int) = r at h1 h2; refine ⟨r.toNat, by omega, ?_⟩
 unfold wrap64; omega
namespace Lx
open Pp Hr
theorem fits_refs {cs : List XCls} (he : errL cs = 0) {a b : Bs} (ha : Known cs a) : fitsH cs 3 3 a b = underB cs a b := by
 unfold fitsH; by_cases e : a = b
 · subst e
   rw [if_pos (.inl ⟨rfl, rfl⟩)]; exact ((underB_iff _ _ _).2 (self_under he ha)).symm
 rw [if_neg (by rintro (h | h); exact e h.2; exact absurd h (by decide))]
 by_cases o : b = objN
 · subst o
   rw [if_pos (.inr ⟨rfl, rfl⟩), (underB_iff _ _ _).2 (top_under he ha)]; rfl
 · rw [if_neg (by rintro (h | h); exact absurd h (by decide); exact o h.2)]; rfl
theorem fits_rows (cs : List XCls) {a b : Bs} (h : a ≠ b) : fitsH cs 5 5 a b = false := by
 unfold fitsH; rw [if_neg (by rintro (h' | h'); exact h h'.2; exact absurd h' (by decide)), if_neg (by rintro (h' | h'); exact absurd h' (by decide); exact absurd h'.1 (by decide))]; rfl
theorem fits_top (cs : List XCls) (a : Bs) : fitsH cs 5 3 a objN = true := by
 unfold fitsH; rw [if_neg (by simp), if_pos (.inr ⟨rfl, rfl⟩)]; rfl
theorem fits_not (cs : List XCls) {a b : Bs} (h : b ≠ objN) : fitsH cs 5 3 a b = false := by
 unfold fitsH; rw [if_neg (by simp), if_neg (by rintro (h' | h'); exact absurd h' (by decide); exact h h'.2)]; rfl
theorem fits_row (cs : List XCls) (a b : Bs) : fitsH cs 3 5 a b = false := by
 unfold fitsH; rw [if_neg (by simp), if_neg (by simp)]; rfl
end Lx
end Go.Proofs.YtbbbnciejmdpfabGreatDoor

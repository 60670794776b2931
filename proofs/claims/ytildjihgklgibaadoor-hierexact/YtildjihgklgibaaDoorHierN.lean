/- What the closed look answers. -/
import Derived.Test.YtildjihgklgibaaDoorHierM
import Derived.Test.YtildjihgklgibaaDoorEqM
namespace Go.Proofs.YtildjihgklgibaaDoor
open Go.RowKit
set_option linter.unusedVariables false
set_option linter.unusedSimpArgs false
namespace Hr
def pA : Pp.XCls := plain [65] []
def pB : Pp.XCls := plain [66] [65]
def pAB : List Pp.XCls := [pA, pB]
def upAB : List (List Nat) := [[], [0], [1], [1], [1], [1], [1], [1], [0], [8]]
theorem lt_plain {n s : Pp.Bs} (h1 : n.length ≤ 60) (h2 : s.length ≤ 60) : Pp.LtC (plain n s) :=
  ⟨⟨Nat.zero_le _, Nat.zero_le _, Nat.zero_le _, h1, h2⟩, (by intro f hf; cases hf), (by intro f hf; cases hf), (by intro f hf; cases hf)⟩
theorem light_AB : Pp.Light pAB := ⟨by decide, by
  intro c hc
  simp only [pAB, List.mem_cons, List.not_mem_nil, or_false] at hc
  rcases hc with rfl | rfl
  · exact lt_plain (by decide) (by decide)
  · exact lt_plain (by decide) (by decide)⟩
theorem far_down {up : List (List Nat)} (h : ∀ (i : Nat) (u : List Nat), up[i]? = some u → ∀ j ∈ u, j < i) {i j : Nat} (hf : Far up i j) : j < i := by
  exact Far.ind (C := fun i j => j < i) (fun ⟨u, hu, hj⟩ => h _ u hu _ hj) (fun _ ⟨u, hu, hj⟩ ih => Nat.lt_trans (h _ u hu _ hj) ih) hf
theorem up_down : ∀ (i : Nat) (u : List Nat), upAB[i]? = some u → ∀ j ∈ u, j < i := by
  intro i u hu j hj
  have hi : i < 10 := by
    have := (List.getElem?_eq_some_iff.1 hu).1
    exact this
  have : i = 0 ∨ i = 1 ∨ i = 2 ∨ i = 3 ∨ i = 4 ∨ i = 5 ∨ i = 6 ∨ i = 7 ∨ i = 8 ∨ i = 9 := by omega
  rcases this with rfl | rfl | rfl | rfl | rfl | rfl | rfl | rfl | rfl | rfl <;> (cases hu; simp at hj; try (subst hj; decide))
theorem grow_AB : growL (allL pAB) (allL pAB) = some upAB := by decide +kernel
theorem prog_AB : Pp.progB pAB = true := by decide +kernel
theorem one_AB : oneB (allL pAB) = true := by decide +kernel
theorem err_AB : errL pAB = 0 := err_ok prog_AB one_AB grow_AB fun ⟨i, hi⟩ => absurd (far_down up_down hi) (Nat.lt_irrefl _)
theorem err_E : errL [plain errN []] = 6 := err_twice (by decide +kernel) (by decide +kernel)
theorem place_A : placeL (allL pAB) [65] = some 8 := by decide +kernel
theorem place_B : placeL (allL pAB) [66] = some 9 := by decide +kernel
theorem place_N : placeL (allL pAB) [78, 117, 108, 108, 69, 114, 114, 111, 114] = some 2 := by decide +kernel
theorem place_E : placeL (allL pAB) errN = some 1 := by decide +kernel
theorem super_A : superQ pAB [65] = some objN := by
  unfold superQ
  rw [lookL_yes err_AB, place_A]
  decide +kernel
theorem under_NE : underQ pAB [78, 117, 108, 108, 69, 114, 114, 111, 114] errN := ⟨upAB, 2, 1, err_AB, grow_AB, place_N, place_E, .inr (.inr (.one ⟨[1], rfl, by simp⟩))⟩
theorem under_AB : ¬ underQ pAB [65] [66] := by
  rintro ⟨up, i, j, _, hg, h1, h2, h3⟩
  rw [grow_AB] at hg; cases hg
  rw [place_A] at h1; cases h1
  rw [place_B] at h2; cases h2
  rcases h3 with h | h | h
  · cases h
  · cases h
  · exact absurd (far_down up_down h) (by decide)
theorem kinds_AB : kindsQ pAB [65] = [[65], [66]] := by
  have h1 : pA.iface = false ∧ underQ pAB pA.name [65] := ⟨rfl, upAB, 8, 8, err_AB, grow_AB, place_A, place_A, .inl rfl⟩
  have h2 : pB.iface = false ∧ underQ pAB pB.name [65] := ⟨rfl, upAB, 9, 8, err_AB, grow_AB, place_B, place_A, .inr (.inr (.one ⟨[8], rfl, by simp⟩))⟩
  have e1 := kinds_yes (cs := pAB) (l := pAB) (nm := [65]) (k := 0) (x := pA) rfl h1
  have e2 := kinds_yes (cs := pAB) (l := pAB) (nm := [65]) (k := 1) (x := pB) rfl h2
  have e3 : kindsQ pAB [65] = kindsL pAB [65] (pAB.take (1 + 1)) := rfl
  rw [e3, e2, e1]
  rfl
theorem own_two (w : World) : Ow.OwnX (w.alloc (.cells #[.string ⟨#[65]⟩, .bool false, .string ⟨#[]⟩, .slice none 0 0, .slice none 0 0, .slice none 0 0, .string ⟨#[66]⟩, .bool false, .string ⟨#[65]⟩, .slice none 0 0, .slice none 0 0, .slice none 0 0] 33)) w.heap.size 33 6 BasX (.slice (some ⟨w.heap.size, 0, none⟩) 2 2) pAB :=
  ⟨_, ⟨[.string ⟨#[65]⟩, .bool false, .string ⟨#[]⟩, .slice none 0 0, .slice none 0 0, .slice none 0 0], _, rfl, bas_plain (by decide) (by decide), [.string ⟨#[66]⟩, .bool false, .string ⟨#[65]⟩, .slice none 0 0, .slice none 0 0, .slice none 0 0], _, rfl, bas_plain (by decide) (by decide), rfl⟩, rfl, .inr ⟨w.heap.size, 2, _, rfl, Nat.le_refl _, heap_alloc_new w _, Nat.le_refl _, by decide, rfl, rfl⟩⟩
theorem own_one (w : World) : Ow.OwnX (w.alloc (.cells #[.string ⟨#[69, 114, 114, 111, 114]⟩, .bool false, .string ⟨#[]⟩, .slice none 0 0, .slice none 0 0, .slice none 0 0] 33)) w.heap.size 33 6 BasX (.slice (some ⟨w.heap.size, 0, none⟩) 1 1) [plain errN []] :=
  ⟨_, ⟨[.string ⟨#[69, 114, 114, 111, 114]⟩, .bool false, .string ⟨#[]⟩, .slice none 0 0, .slice none 0 0, .slice none 0 0], _, rfl, bas_plain (by decide) (by decide), rfl⟩, rfl, .inr ⟨w.heap.size, 1, _, rfl, Nat.le_refl _, heap_alloc_new w _, Nat.le_refl _, by decide, rfl, rfl⟩⟩
theorem row_strs (w : World) : RowX (w.alloc (.cells #[.string ⟨#[65]⟩, .string ⟨#[66]⟩] 9)) 1 StrX (.slice (some ⟨w.heap.size, 0, none⟩) 2 2) [[65], [66]] := by
  have h : Ow.OwnX (w.alloc (.cells #[.string ⟨#[65]⟩, .string ⟨#[66]⟩] 9)) w.heap.size 9 1 StrX (.slice (some ⟨w.heap.size, 0, none⟩) 2 2) [[65], [66]] :=
    ⟨_, ⟨[.string ⟨#[65]⟩], _, rfl, ⟨rfl, by decide⟩, [.string ⟨#[66]⟩], _, rfl, ⟨rfl, by decide⟩, rfl⟩, rfl, .inr ⟨w.heap.size, 2, _, rfl, Nat.le_refl _, heap_alloc_new w _, Nat.le_refl _, by decide, rfl, rfl⟩⟩
  exact h.row Ow.shp_str fun _ _ h => h
end Hr

set_option maxRecDepth 100000 in
set_option maxHeartbeats 8000000 in
theorem hwakes_any (w : World) (ht : TabS w) :
    Calls Tryd.prog 25 #[] w fun e w' => e = .returned (.bool true) ∧ Below w.heap.size w w' := by
  have HT := hide (fun wx (hb : Below w.heap.size w wx) => ht.below hb)
  clear ht
  have H1 := hide ((Below.refl w.heap.size w).alloc (Nat.le_refl _) (.cells #[.string ⟨#[65]⟩, .bool false, .string ⟨#[]⟩, .slice none 0 0, .slice none 0 0, .slice none 0 0, .string ⟨#[66]⟩, .bool false, .string ⟨#[65]⟩, .slice none 0 0, .slice none 0 0, .slice none 0 0] 33))
  have HP1 : Hid (ProgX (w.alloc (.cells #[.string ⟨#[65]⟩, .bool false, .string ⟨#[]⟩, .slice none 0 0, .slice none 0 0, .slice none 0 0, .string ⟨#[66]⟩, .bool false, .string ⟨#[65]⟩, .slice none 0 0, .slice none 0 0, .slice none 0 0] 33)) (.slice (some ⟨w.heap.size, 0, none⟩) 2 2) Hr.pAB) := hide ⟨(Hr.own_two w).row Hr.shp_bas fun _ _ h => h.x _, by decide⟩
  go_enter Tryd.func25, Tryd.ntmps25
  go_wp2_with fail
  have hx2 := heap_alloc_new (w.alloc (.cells #[.string ⟨#[65]⟩, .bool false, .string ⟨#[]⟩, .slice none 0 0, .slice none 0 0, .slice none 0 0, .string ⟨#[66]⟩, .bool false, .string ⟨#[65]⟩, .slice none 0 0, .slice none 0 0, .slice none 0 0] 33)) (.cells #[.slice (some ⟨w.heap.size, 0, none⟩) 2 2] 24)
  have hb2 := (Below.refl (w.alloc (.cells #[.string ⟨#[65]⟩, .bool false, .string ⟨#[]⟩, .slice none 0 0, .slice none 0 0, .slice none 0 0, .string ⟨#[66]⟩, .bool false, .string ⟨#[65]⟩, .slice none 0 0, .slice none 0 0, .slice none 0 0] 33)).heap.size (w.alloc (.cells #[.string ⟨#[65]⟩, .bool false, .string ⟨#[]⟩, .slice none 0 0, .slice none 0 0, .slice none 0 0, .string ⟨#[66]⟩, .bool false, .string ⟨#[65]⟩, .slice none 0 0, .slice none 0 0, .slice none 0 0] 33))).alloc (Nat.le_refl _) (.cells #[.slice (some ⟨w.heap.size, 0, none⟩) 2 2] 24)
  have HP2 := hide (HP1.out.on hb2)
  have HB2 := hide (H1.out.trans (hb2.mono H1.out.size))
  have hsz : (w.alloc (.cells #[.string ⟨#[65]⟩, .bool false, .string ⟨#[]⟩, .slice none 0 0, .slice none 0 0, .slice none 0 0, .string ⟨#[66]⟩, .bool false, .string ⟨#[65]⟩, .slice none 0 0, .slice none 0 0, .slice none 0 0] 33)).heap.size = w.heap.size + 1 := by simp
  rw [hsz] at hx2
  clear hb2 hsz HP1 H1
  generalize (w.alloc (.cells #[.string ⟨#[65]⟩, .bool false, .string ⟨#[]⟩, .slice none 0 0, .slice none 0 0, .slice none 0 0, .string ⟨#[66]⟩, .bool false, .string ⟨#[65]⟩, .slice none 0 0, .slice none 0 0, .slice none 0 0] 33)).alloc (.cells #[.slice (some ⟨w.heap.size, 0, none⟩) 2 2] 24) = w2 at *
  have HC : Hid (∀ wx, Below w2.heap.size w2 wx → wx.cell? ⟨w.heap.size + 1, 0, none⟩ = some (.slice (some ⟨w.heap.size, 0, none⟩) 2 2)) := hide fun wx hb => cell_box ((hb.block _ (Ow.lt_of_blk hx2)).trans hx2) 0
  clear hx2
  have HTx := hide (fun wx (hb : Below w2.heap.size w2 wx) => HT.out wx (HB2.out.trans (hb.mono HB2.out.size)))
  -- Super
  have hS := Super_any Hr.pAB _ [65] w2 (HTx.out _ (Below.refl _ _)) HP2.out
  rw [Hr.super_A] at hS
  refine hS.mono ?_
  clear hS
  rintro e w3 ⟨rfl, hb3⟩
  have HB3 := hide hb3
  have c3 := HC.out w3 hb3
  clear hb3
  go_wp2_with fail
  refine (Kinds_any Hr.pAB _ [65] w3 (HTx.out _ HB3.out) (HP2.out.on HB3.out)).mono ?_
  rw [Hr.kinds_AB]
  rintro e w4 ⟨v4, rfl, ho4, hb4⟩
  have HB4 := hide (HB3.out.trans (hb4.mono HB3.out.size))
  have HO4 := hide (ho4.row Ow.shp_str fun _ _ h => h)
  have c4 := HC.out w4 HB4.out
  obtain ⟨a4, n4, rfl⟩ := ho4.shape
  clear hb4 ho4 c3
  go_wp2_with fail
  refine (All_any Hr.pAB _ w4 (HP2.out.on HB4.out) Hr.light_AB).mono ?_
  rintro e w5 ⟨v5, rfl, ho5, hb5⟩
  have H5 := hide hb5
  have HB5 := hide (HB4.out.trans (hb5.mono HB4.out.size))
  have c5 := HC.out w5 HB5.out
  obtain ⟨a5, n5, rfl⟩ := ho5.shape
  rw [show (Hr.allL Hr.pAB).length = 10 from rfl]
  clear hb5 ho5 c4
  go_wp2_with fail
  refine (hCheck_any Hr.pAB _ w5 (HTx.out _ HB5.out) (HP2.out.on HB5.out)).mono ?_
  rw [Hr.err_AB]
  rintro e w6 ⟨rfl, hb6⟩
  have H6 := hide (H5.out.trans (hb6.mono H5.out.size))
  have HB6 := hide (HB5.out.trans (hb6.mono HB5.out.size))
  have c6 := HC.out w6 HB6.out
  clear hb6 c5 H5
  go_wp2_with fail
  refine (Under_any Hr.pAB _ [78, 117, 108, 108, 69, 114, 114, 111, 114] Hr.errN w6 (HTx.out _ HB6.out) (HP2.out.on HB6.out)).mono ?_
  rintro e w7 ⟨hy, hb7⟩
  have hy := hy.t Hr.under_NE
  subst hy
  have H7 := hide (H6.out.trans (hb7.mono H6.out.size))
  have HB7 := hide (HB6.out.trans (hb7.mono HB6.out.size))
  have c7 := HC.out w7 HB7.out
  clear hb7 c6 H6
  go_wp2_with fail
  refine (Under_any Hr.pAB _ [65] [66] w7 (HTx.out _ HB7.out) (HP2.out.on HB7.out)).mono ?_
  rintro e w8 ⟨hy, hb8⟩
  have hy := hy.f Hr.under_AB
  subst hy
  have H8 := hide (H7.out.trans (hb8.mono H7.out.size))
  have HB8 := hide (HB7.out.trans (hb8.mono HB7.out.size))
  clear hb8 c7 H7
  go_wp2_with fail
  have HA9 := hide ((Below.refl w8.heap.size w8).alloc (Nat.le_refl _) (.cells #[.string ⟨#[65]⟩, .string ⟨#[66]⟩] 9))
  refine (Strings_eq [[65], [66]] [[65], [66]] _ _ _ (HO4.out.on (H8.out.trans (HA9.out.mono H8.out.size)) fun _ _ h => h) (Hr.row_strs w8) (by decide) (by decide)).mono ?_
  rintro e w9 ⟨⟨y, rfl, hy⟩, hb9⟩
  have hyt : y = true := hy.2 rfl
  subst hyt
  have HB9 := hide ((HB8.out.trans (HA9.out.mono HB8.out.size)).trans (hb9.mono (Nat.le_trans HB8.out.size HA9.out.size)))
  clear hy hb9 H8 HA9
  go_wp2_with fail
  have HA10 := hide (HB9.out.alloc HB9.out.size (.cells #[.string ⟨#[69, 114, 114, 111, 114]⟩, .bool false, .string ⟨#[]⟩, .slice none 0 0, .slice none 0 0, .slice none 0 0] 33))
  refine (hCheck_any [Hr.plain Hr.errN []] _ _ (HTx.out _ HA10.out) ⟨(Hr.own_one w9).row Hr.shp_bas fun _ _ h => h.x _, by decide⟩).mono ?_
  rw [Hr.err_E]
  rintro e w10 ⟨rfl, hb10⟩
  have HB10 := hide (HB2.out.trans ((HA10.out.trans (hb10.mono HA10.out.size)).mono HB2.out.size))
  clear hb10
  go_wp2_with fail
  go_ret
  exact ⟨rfl, HB10.out⟩
end Go.Proofs.YtildjihgklgibaaDoor

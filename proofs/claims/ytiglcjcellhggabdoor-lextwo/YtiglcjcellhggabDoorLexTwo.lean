/- LexTwo: the walk: words of two lists joined are both lists' texts, a blank between. -/
import Derived.Test.YtiglcjcellhggabDoorToksRows
namespace Go.Proofs.YtiglcjcellhggabDoor
open Go.RowKit
set_option linter.unusedVariables false
set_option linter.unusedSimpArgs false

set_option maxHeartbeats 1000000 in
theorem two_none (a1 a2 : Option Addr) (n1 n2 c1 c2 : Nat) (hm1 : n1 ≤ maxLen) (hm2 : n2 ≤ maxLen) (h : 100 < n1 ∨ 100 < n2 ∨ n1 = 0 ∨ n2 = 0) (w : World) :
    Calls Tryd.prog 3 #[.slice a1 n1 c1, .slice a2 n2 c2] w fun e w' => e = .returned (.bool true) ∧ Below w.heap.size w w' := by
  unfold maxLen at hm1 hm2
  by_cases h1 : 100 < n1
  · go_enter Tryd.func3, Tryd.ntmps3
    go_wp2_with fail
    go_ret
    exact ⟨rfl, Below.refl _ _⟩
  by_cases h2 : 100 < n2
  · go_enter Tryd.func3, Tryd.ntmps3
    go_wp2_with fail
    go_ret
    exact ⟨rfl, Below.refl _ _⟩
  by_cases h3 : n1 = 0
  · subst h3
    go_enter Tryd.func3, Tryd.ntmps3
    go_wp2_with fail
    go_ret
    exact ⟨rfl, Below.refl _ _⟩
  have h4 : n2 = 0 := by omega
  subst h4
  have h3' : ((n1 : Int) == 0) = false := by simp; omega
  go_enter Tryd.func3, Tryd.ntmps3
  go_wp2_with fail
  go_ret
  exact ⟨rfl, Below.refl _ _⟩

set_option maxHeartbeats 4000000 in
theorem two_walk (xs ys : List Lx.ATok) (b1 o1 c1 b2 o2 c2 : Nat) (w : World) (ht : Tab w) (hx1 : 1 ≤ xs.length) (hx2 : xs.length ≤ 100) (hy1 : 1 ≤ ys.length) (hy2 : ys.length ≤ 100) (hc1 : xs.length ≤ c1) (hc2 : ys.length ≤ c2)
    (hb1 : b1 < w.heap.size) (hb2 : b2 < w.heap.size) (htx : ToksAt w b1 o1 xs) (hty : ToksAt w b2 o2 ys) (hlx : ∀ t ∈ xs, t.text.length ≤ maxLen) (hly : ∀ t ∈ ys, t.text.length ≤ maxLen) :
    Calls Tryd.prog 3 #[.slice (some ⟨b1, o1, none⟩) xs.length c1, .slice (some ⟨b2, o2, none⟩) ys.length c2] w fun e w' => e = .returned (.bool true) ∧ Below w.heap.size w w' := by
  have HJ : Hid (Lx.joinL (xs ++ ys) = (Lx.joinL xs).bind fun x => (Lx.joinL ys).map fun y => x ++ [32] ++ y) := Lx.joinL_two xs ys (fun e => by rw [e] at hx1; simp at hx1) (fun e => by rw [e] at hy1; simp at hy1)
  have HT : Hid (Tab w) := ht
  have HX : Hid (ToksAt w b1 o1 xs) := htx
  have HY : Hid (ToksAt w b2 o2 ys) := hty
  have HLX : Hid (∀ t ∈ xs, t.text.length ≤ maxLen) := hlx
  have HLY : Hid (∀ t ∈ ys, t.text.length ≤ maxLen) := hly
  clear ht htx hty hlx hly
  have h1' : ((xs.length : Int) == 0) = false := beq_eq_false_iff_ne.2 (by omega)
  have h2' : ((ys.length : Int) == 0) = false := beq_eq_false_iff_ne.2 (by omega)
  obtain ⟨i0, hi, hz0, hz1, hz2⟩ := info_parts Tryd.info31
  obtain ⟨j0, hj, hy0, hyy1, hyy2⟩ := info_parts Tryd.info5
  go_enter Tryd.func3, Tryd.ntmps3
  go_wp2_with fail
  refine (Join_any xs b1 o1 c1 _ (by omega) hc1 hb1 HT.out HX.out HLX.out).mono ?_
  rintro e w1 ⟨v1, rfl, hown1, hB1⟩
  obtain ⟨av1, cv1, rfl⟩ := own_shape hown1
  have hs1 := hB1.size
  go_wp2_with fail
  refine (Join_any ys b2 o2 c2 _ (by omega) hc2 (by omega) (HT.out.on hB1) (HY.out.on hB1 hb2) HLY.out).mono ?_
  rintro e w2 ⟨v2, rfl, hown2, hB2⟩
  obtain ⟨av2, cv2, rfl⟩ := own_shape hown2
  have hs2 := hB2.size
  have HL1 : Hid (∀ x, Lx.joinL xs = some x → x.length ≤ 2200) := fun x h => by have := Lx.joinGo_len xs true [] x h; simp at this; omega
  have HL2 : Hid (∀ x, Lx.joinL ys = some x → x.length ≤ 2200) := fun x h => by have := Lx.joinGo_len ys true [] x h; simp at this; omega
  have HP2 : Hid (∀ x, Lx.joinL ys = some x → 1 ≤ x.length) := fun x h => Lx.joinL_pos ys x (fun e => by rw [e] at hy1; simp at hy1) h
  generalize Lx.joinL xs = R1 at *
  generalize Lx.joinL ys = R2 at *
  have hBx : Below w.heap.size w (w2.alloc (.cells #[] 31)) := (hB1.trans (hB2.mono hs1)).alloc (by omega) _
  have hBy := hBx
  have hX2 := HX.out.on hBx hb1
  have HX2 : Hid (ToksAt (w2.alloc (.cells #[] 31)) b1 o1 xs) := hX2
  have HB2 : Hid (Below w.heap.size w (w2.alloc (.cells #[] 31))) := hBx
  have hownE : (w2.alloc (.cells #[] 31)).ownsRow w2.heap.size 31 4 (.slice (some ⟨w2.heap.size, 0, none⟩) 0 0) 0 [] := World.ownsRow_lit w2 #[] 0 (Nat.le_refl _) (by decide) rfl
  clear hBx hBy hX2
  go_wp2_with (at_builtin; refine wpList_append_own _ rfl (.tmp 40) (.tmp 41) 22 rfl w2.heap.size 31 i0 (.agg #[.int .i64 0, .string ⟨#[]⟩, .int .i64 0, .int .i64 0]) 4 40 Tryd.underlying22 hi hz0 hz1 hz2 rfl (by decide) _ _ _ rfl hownE ⟨b1, o1, none⟩ xs.length c1 (asCells xs) rfl (asCells_len xs) ?c1 (asCells_one xs) ?c3 ?c4 ?c5 ?_)
  case c1 => exact toks_news HX2.out
  case c3 => unfold maxLen; omega
  case c4 => omega
  case c5 => simp
  · intro v3 w3 hown3 hgrow3 _
    have hB3 : Below w.heap.size w w3 := Below.grown HB2.out hgrow3 (by simp; omega) (fun k hk => by simp [Value.ownBlock] at hk; omega)
    have hB23 : Below w2.heap.size w2 w3 := Below.grown ((Below.refl _ _).alloc (Nat.le_refl _) _) hgrow3 (by simp) (fun k hk => by simp [Value.ownBlock] at hk; omega)
    have HY3 : Hid (ToksAt w3 b2 o2 ys) := HY.out.on hB3 hb2
    obtain ⟨av3, cv3, rfl⟩ := own_shape hown3
    have hs3 := hB23.size
    clear hgrow3 hownE HX2 HB2
    go_wp2_with (at_builtin; refine wpList_append_own _ rfl (.tmp 42) (.tmp 43) 22 rfl w2.heap.size 31 i0 (.agg #[.int .i64 0, .string ⟨#[]⟩, .int .i64 0, .int .i64 0]) 4 40 Tryd.underlying22 hi hz0 hz1 hz2 rfl (by decide) _ _ _ rfl hown3 ⟨b2, o2, none⟩ ys.length c2 (asCells ys) rfl (asCells_len ys) ?d1 (asCells_one ys) ?d3 ?d4 ?d5 ?_)
    case d1 => exact toks_news HY3.out
    case d3 => unfold maxLen; omega
    case d4 => omega
    case d5 => exact hs3
    · intro v4 w4 hown4 hgrow4 _
      rw [← asCells_app] at hown4
      have hl3 := hown3.lt
      have hB4 : Below w.heap.size w w4 := Below.grown hB3 hgrow4 (by omega) (fun k hk => by have := (hl3 k hk).1; omega)
      have hB24 : Below w2.heap.size w2 w4 := Below.grown hB23 hgrow4 hs3 (fun k hk => (hl3 k hk).1)
      obtain ⟨g4, cv4, rfl, hg4, hg4', hnc4, _, hcell4⟩ := own_some hown4 (by omega)
      have HJT : Hid (ToksAt w4 g4 0 (xs ++ ys)) := own_toks hcell4
      have hs4 := hB24.size
      have hlen : (xs ++ ys).length = xs.length + ys.length := by simp
      clear hgrow4 hown4 hown3 hcell4 hl3 HY3
      go_wp2_with fail
      have hj3 := Join_any (xs ++ ys) g4 0 cv4 w4 (by omega) (by omega) hg4' (HT.out.on hB4) HJT.out (fun t ht => by
        rcases List.mem_append.1 ht with h | h
        · exact HLX.out t h
        · exact HLY.out t h)
      rw [hlen, HJ.out] at hj3
      refine hj3.mono ?_
      clear hj3 hlen HJT
      rintro e w5 ⟨v5, rfl, hown5, hB5⟩
      obtain ⟨av5, cv5, rfl⟩ := own_shape hown5
      have hs5 := hB5.size
      have hBz : Below w.heap.size w w5 := hB4.trans (hB5.mono (by omega))
      clear HJ
      cases R1 with
      | none =>
        cases R2
        all_goals
          simp only [errOf, Option.bind_none, Option.getD_none, Option.getD_some] at hown1 hown2 hown5 ⊢
          go_wp2_with fail
          refine (wakes_any _).mono ?_
          rintro e w6 ⟨rfl, hb6⟩
          go_wp2_with fail
          go_ret
          exact ⟨rfl, hBz.trans (hb6.mono hBz.size)⟩
      | some x =>
        cases R2 with
        | none =>
          simp only [errOf, Option.bind_some, Option.map_none, Option.getD_none, Option.getD_some] at hown1 hown2 hown5 ⊢
          go_wp2_with fail
          refine (wakes_any _).mono ?_
          rintro e w6 ⟨rfl, hb6⟩
          go_wp2_with fail
          go_ret
          exact ⟨rfl, hBz.trans (hb6.mono hBz.size)⟩
        | some y =>
          simp only [errOf, Option.bind_some, Option.map_some, Option.getD_some] at hown1 hown2 hown5 ⊢
          have hlx := HL1.out x rfl
          have hly := HL2.out y rfl
          have hpy := HP2.out y rfl
          have hlt1 := hown1.lt
          have hB15 : Below w1.heap.size w1 w5 := (hB2.trans (hB24.mono hs2)).trans (hB5.mono (by omega))
          have hB25 : Below w2.heap.size w2 w5 := hB24.trans (hB5.mono hs4)
          have hX5 := own_below hown1 hB15
          have hY5 := own_below hown2 hB25
          obtain ⟨g2, cv2', hv2, hg2, hg2', _, _, _⟩ := own_some hown2 (by omega)
          simp only [Value.slice.injEq] at hv2
          obtain ⟨rfl, _, rfl⟩ := hv2
          obtain ⟨g5, cv5', hv5, hg5, hg5', _, _, _⟩ := own_some hown5 (by simp; omega)
          simp only [Value.slice.injEq] at hv5
          obtain ⟨rfl, _, rfl⟩ := hv5
          clear hown1 hown2 HL1 HL2 HP2 hB15 hB25 hB1 hB2 hB3 hB4 hB5 hB23 hB24
          have hlz : (x ++ [32] ++ y).length = x.length + (y.length + 1) := by simp
          have HZ : Hid (w5.ownsRow w4.heap.size 5 1 (.slice (some ⟨g5, 0, none⟩) (x ++ [32] ++ y).length cv5) (x ++ [32] ++ y).length ((x ++ [32] ++ y).map byteV)) := hown5
          clear hown5
          rw [hlz]
          go_wp2_with (at_builtin; refine wpList_append_own_g _ rfl (.tmp 68) (.tmp 69) 23 rfl w.heap.size 5 j0 (.int .u8 0) 1 1 Tryd.underlying23 hj hy0 hyy1 hyy2 rfl (by decide) _ _ _ rfl (hX5.alloc _) ⟨w5.heap.size, 0, none⟩ 1 1 [.int .u8 32] rfl rfl ?e1 ?e2 ?e3 ?e4 ?e5 ?_)
          case e1 =>
            intro j u hj
            match j, hj with
            | 0, hj => simp at hj; subst hj; simp [Addr.add]
          case e2 => intro u hu; simp at hu; subst hu; rfl
          case e3 => unfold maxLen; omega
          case e4 => omega
          case e5 => simp; omega
          · intro v6 w6 hown6 hgrow6 hat6
            have hrow : ∀ k, w1.heap.size ≤ k → some k ≠ (Value.slice av1 x.length cv1).ownBlock := fun k hk e => by have := (hlt1 k e.symm).2; omega
            have hY6 := (hY5.alloc (.cells #[.int .u8 32] 5)).kept hgrow6 (.inr (hrow g2 hg2))
            have HZ6 : Hid (w6.ownsRow w4.heap.size 5 1 (.slice (some ⟨g5, 0, none⟩) (x ++ [32] ++ y).length cv5) (x ++ [32] ++ y).length ((x ++ [32] ++ y).map byteV)) := (HZ.out.alloc (.cells #[.int .u8 32] 5)).kept hgrow6 (.inr (hrow g5 (by omega)))
            have hB6 : Below w.heap.size w w6 := Below.grown (hBz.alloc (by omega) _) hgrow6 (by simp; omega) (fun k hk => (hlt1 k hk).1)
            have hg6 := hgrow6.size
            rw [World.size_alloc] at hg6
            have hne6 : some g5 ≠ v6.ownBlock := by
              rcases hat6 with h | h
              · rw [h]; exact hrow g5 (by omega)
              · rw [h]; intro e; injection e with e; omega
            have HN6 : Hid (some g5 ≠ v6.ownBlock) := hne6
            obtain ⟨_, _, _, _, _, _, _, hcy⟩ := own_some hY6 (by omega)
            obtain ⟨g2', c2', hv2', _, _, _, _, hcy⟩ := own_some hY6 (by omega)
            simp only [Value.slice.injEq, Option.some.injEq, Addr.mk.injEq] at hv2'
            obtain ⟨⟨rfl, _, _⟩, _, _⟩ := hv2'
            obtain ⟨a6, c6, rfl⟩ := own_shape hown6
            clear hgrow6 hat6 HZ hX5 hY5 hrow hlt1 hne6
            go_wp2_with (at_builtin; refine wpList_append_own_g _ rfl (.tmp 70) (.tmp 71) 23 rfl w.heap.size 5 j0 (.int .u8 0) 1 1 Tryd.underlying23 hj hy0 hyy1 hyy2 rfl (by decide) _ _ _ rfl hown6 ⟨g2, 0, none⟩ y.length cv2 (y.map byteV) rfl ?f0 ?f1 (bytes_one y) ?f3 ?f4 ?f5 ?_)
            case f0 => simp
            case f1 => exact own_news (base := 0) (cap := 0) hcy
            case f3 => unfold maxLen; omega
            case f4 => omega
            case f5 => omega
            · intro v7 w7 hown7 hgrow7 _
              have hl6 := hown6.lt
              have hB7 : Below w.heap.size w w7 := Below.grown hB6 hgrow7 (by omega) (fun k hk => (hl6 k hk).1)
              have hZ7 := HZ6.out.kept hgrow7 (.inr HN6.out)
              have hown7' : w7.ownsRow w.heap.size 5 1 v7 (x ++ [32] ++ y).length ((x ++ [32] ++ y).map byteV) := by
                have e1 : (x ++ [32] ++ y).length = x.length + 1 + y.length := by simp; omega
                have e2 : (x ++ [32] ++ y).map byteV = x.map byteV ++ [.int .u8 32] ++ y.map byteV := by simp [byteV]
                rw [e1, e2]
                simpa using hown7
              obtain ⟨a7, c7, rfl⟩ := own_shape hown7'
              have hr1 := own_rowAt hZ7
              have hr2 := own_rowAt hown7'
              have hbs := Bytes_same (x ++ [32] ++ y) _ _ cv5 c7 w7 (by omega) hr1 hr2
              rw [hlz] at hbs ⊢
              clear hown7 hgrow7 hown7' hZ7 hr1 hr2 hown6 hl6 hcy hY6 HZ6 HN6
              go_wp2_with fail
              refine hbs.mono ?_
              clear hbs
              rintro e w8 ⟨rfl, hb8⟩
              go_wp2_with fail
              refine (wakes_any _).mono ?_
              rintro e w9 ⟨rfl, hb9⟩
              go_wp2_with fail
              go_ret
              have hB8 := hB7.trans (hb8.mono hB7.size)
              exact ⟨rfl, hB8.trans (hb9.mono hB8.size)⟩

end Go.Proofs.YtiglcjcellhggabDoor

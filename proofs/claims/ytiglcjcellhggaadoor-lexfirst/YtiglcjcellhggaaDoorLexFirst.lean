/- LexFirst: the walk: what is wrong is told at its place. -/
import Derived.Test.YtiglcjcellhggaaDoorAlls
import Derived.Test.YtiglcjcellhggaaDoorPlainF
import Derived.Test.YtiglcjcellhggaaDoorRefLeaf
namespace Go.Proofs.YtiglcjcellhggaaDoor
open Go.RowKit
set_option linter.unusedVariables false
set_option linter.unusedSimpArgs false

set_option maxHeartbeats 1000000 in
theorem first_long (a : Option Addr) (n c : Nat) (x : Int) (hm : n ≤ maxLen) (h : 60 < n) (w : World) :
    Calls Tryd.prog 6 #[.slice a n c, .int .u8 x] w fun e w' => e = .returned (.bool true) ∧ Below w.heap.size w w' := by
  unfold maxLen at hm
  go_enter Tryd.func6, Tryd.ntmps6
  go_wp2_with fail
  go_ret
  exact ⟨rfl, Below.refl _ _⟩

theorem first_step {w w1 w2 w3 : World} {B : Nat} {v v' : Value} {l : List UInt8} {x : Int} {u : UInt8} {o : Obj} (hu : (u.toNat : Int) = x) (hB : Below w.heap.size w w1) (hB2 : B = w1.heap.size) (hb2 : Below w1.heap.size w1 w2) (hown : w2.ownsRow B 5 1 v l.length (l.map byteV))
    (hown3 : w3.ownsRow B 5 1 v' (l.length + 2) (l.map byteV ++ [.int .u8 32, .int .u8 x])) (hg : (w2.alloc o).grownBy w3 v.ownBlock) :
    w3.ownsRow B 5 1 v' (l ++ [32, u]).length ((l ++ [32, u]).map byteV) ∧ Below w.heap.size w w3 ∧ Below w1.heap.size w1 w3 := by
  have h0 := hB.size
  have h1 := hb2.size
  have hl := hown.lt
  have hx : Below w1.heap.size w1 w3 := Below.grown (hb2.alloc h1 o) hg (by simp; omega) (fun k hk => by have := (hl k hk).1; omega)
  refine ⟨?_, hB.trans (hx.mono h0), hx⟩
  rw [List.length_append, List.map_append]
  have e : [32, u].map byteV = [.int .u8 32, .int .u8 x] := by rw [← hu]; rfl
  rw [e]; exact hown3

set_option maxHeartbeats 1000000 in
theorem first_none (xs : List Lx.ATok) (a : Option Addr) (n c1 : Nat) (c : Int) (w : World) (ht : Tab w) (hx : IsToks w a n c1 xs) (hx2 : n ≤ 60) (hR : Lx.joinL xs = none) :
    Calls Tryd.prog 6 #[.slice a n c1, .int .u8 c] w fun e w' => e = .returned (.bool true) ∧ Below w.heap.size w w' := by
  have hj := Join_all xs a n c1 w (by omega) ht hx
  rw [hR] at hj
  clear hR ht hx
  simp only [errOf, Option.getD_none] at hj
  go_enter Tryd.func6, Tryd.ntmps6
  go_wp2_with fail
  refine hj.mono ?_
  clear hj
  rintro e w1 ⟨v1, rfl, hown1, hB1⟩
  obtain ⟨av1, cv1, rfl⟩ := own_none hown1
  clear hown1
  go_wp2_with fail
  go_ret
  exact ⟨rfl, hB1⟩

set_option maxHeartbeats 1000000 in
theorem first_big (xs : List Lx.ATok) (a : Option Addr) (n c1 : Nat) (c : Int) (bs : List UInt8) (w : World) (ht : Tab w) (hx : IsToks w a n c1 xs) (hx2 : n ≤ 60) (hR : Lx.joinL xs = some bs) (hbig : 1000 < bs.length) :
    Calls Tryd.prog 6 #[.slice a n c1, .int .u8 c] w fun e w' => e = .returned (.bool true) ∧ Below w.heap.size w w' := by
  have hj := Join_all xs a n c1 w (by omega) ht hx
  have hlen : bs.length ≤ 2000 := by have := Lx.joinGo_len xs true [] bs hR; have := hx.1; simp at *; omega
  rw [hR] at hj
  clear hR ht hx
  simp only [errOf, Option.getD_some] at hj
  go_enter Tryd.func6, Tryd.ntmps6
  go_wp2_with fail
  refine hj.mono ?_
  clear hj
  rintro e w1 ⟨v1, rfl, hown1, hB1⟩
  obtain ⟨av1, cv1, rfl⟩ := own_shape hown1
  clear hown1
  go_wp2_with fail
  go_ret
  exact ⟨rfl, hB1⟩

def NoneOf (c : Int) : Prop := Lx.inwI c = false ∧ Lx.blkI c = false ∧ c ≠ 45
def Start (c x : Int) : Prop := x = 35 ∨ (x = c ∧ NoneOf c)
theorem none_of (c : Int) (h : c < 48 ∨ (58 ≤ c ∧ c ≤ 64) ∨ (91 ≤ c ∧ c ≤ 96) ∨ 123 ≤ c) (k4 : (c == 95) = false) (k5 : (c == 45) = false) (k6 : (c == 32) = false) (k7 : (c == 9) = false) (k8 : (c == 10) = false) (k9 : (c == 13) = false) : NoneOf c := by
  simp only [beq_eq_false_iff_ne] at k4 k5 k6 k7 k8 k9
  refine ⟨?_, ?_, k5⟩
  · simp only [Lx.inwI, decide_eq_false_iff_not]; omega
  · simp only [Lx.blkI, decide_eq_false_iff_not]; omega

set_option maxHeartbeats 8000000 in
theorem first_walk (xs : List Lx.ATok) (a : Option Addr) (n c1 : Nat) (c : Int) (bs : List UInt8) (w : World) (ht : Tab w) (hx : IsToks w a n c1 xs) (hx2 : n ≤ 60) (h0 : 0 ≤ c) (h1 : c ≤ 255) (hR : Lx.joinL xs = some bs) (hbig : ¬ 1000 < bs.length)
    (hcs : (97 ≤ c ∧ c ≤ 122) ∨ (65 ≤ c ∧ c ≤ 90) ∨ (48 ≤ c ∧ c ≤ 57) ∨ c = 95 ∨ c = 45 ∨ c = 32 ∨ c = 9 ∨ c = 10 ∨ c = 13 ∨
      ((c < 48 ∨ (58 ≤ c ∧ c ≤ 64) ∨ (91 ≤ c ∧ c ≤ 96) ∨ 123 ≤ c) ∧ (c == 95) = false ∧ (c == 45) = false ∧ (c == 32) = false ∧ (c == 9) = false ∧ (c == 10) = false ∧ (c == 13) = false)) :
    Calls Tryd.prog 6 #[.slice a n c1, .int .u8 c] w fun e w' => e = .returned (.bool true) ∧ Below w.heap.size w w' := by
  have hj := Join_all xs a n c1 w (by omega) ht hx
  rw [hR] at hj
  simp only [errOf, Option.getD_some] at hj
  have HR : Hid (Lx.joinL xs = some bs) := hR
  clear ht hx hR
  obtain ⟨j0, hj0, hy0, hyy1, hyy2⟩ := info_parts Tryd.info5
  rcases hcs with hc | hc | hc | hc | hc | hc | hc | hc | hc | ⟨hc, k4, k5, k6, k7, k8, k9⟩
  rotate_left 9
  · have HN : Hid (NoneOf c) := none_of c hc k4 k5 k6 k7 k8 k9
    rcases hc with hc | hc | hc | hc
    all_goals
      go_enter Tryd.func6, Tryd.ntmps6
      go_wp2_with fail
      refine hj.mono ?_
      clear hj
      rintro e w1 ⟨v1, rfl, hown1, hB1⟩
      obtain ⟨av1, cv1, rfl⟩ := own_shape hown1
      have HO1 : Hid (w1.ownsRow w.heap.size 5 1 (.slice av1 bs.length cv1) bs.length (bs.map byteV)) := hown1
      clear hown1
      go_wp2_with fail
      have hsg := sgn_find c h0 h1 _ rfl
      have h9 : (⟨#[123, 125, 40, 41, 58, 59, 44, 91, 93]⟩ : ByteArray).size ≤ 9 := by decide
      generalize (⟨#[123, 125, 40, 41, 58, 59, 44, 91, 93]⟩ : ByteArray) = S at *
      have HG : Hid ((∃ k, ∃ h : k < S.size, ((S[k].toNat : Nat) : Int) = c) ↔ Lx.sgnI c = true) := hsg
      clear hsg k4 k5 k6 k7 k8 k9
      go_loop [7, 9] (fun cc i => ∃ (k : Nat) (x : Int), k ≤ S.size ∧ i = .int .i64 k ∧ cc = .int .u8 x ∧ 0 ≤ x ∧ x ≤ 255 ∧ Hid (x = 35 ∨ (x = c ∧ ∀ j, ∀ h : j < S.size, j < k → ¬ ((S[j].toNat : Nat) : Int) = c))) (fun _ i => S.size - (intOf i).toNat)
      case atStart => exact ⟨0, c, Nat.zero_le _, rfl, rfl, h0, h1, .inr ⟨rfl, fun j _ hj => by omega⟩⟩
      case round =>
        obtain ⟨k, x, hk, rfl, rfl, hx0, hx1, HK⟩ := hrel
        by_cases hlt : k < S.size
        · by_cases heq : ((S[k].toNat : Nat) : Int) = x
          · have hb : (((S[k].toNat : Nat) : Int) == x) = true := by simpa using heq
            clear heq HK
            go_wp2_with fail
            go_round
            case rel => exact ⟨k + 1, 35, by omega, by go_num, rfl, by omega, by omega, .inl rfl⟩
            case measure => simp [intOf]; omega
          · have HN2 : Hid (x = 35 ∨ (x = c ∧ ∀ j, ∀ h : j < S.size, j < k + 1 → ¬ ((S[j].toNat : Nat) : Int) = c)) := by
              rcases HK.out with h | ⟨h, h'⟩
              · exact .inl h
              · refine .inr ⟨h, fun j hj hjk => ?_⟩
                by_cases e : j = k
                · subst e; rw [← h]; exact heq
                · exact h' j hj (by omega)
            have hb : (((S[k].toNat : Nat) : Int) == x) = false := by simpa using heq
            clear heq HK
            go_wp2_with fail
            go_round
            case rel => exact ⟨k + 1, x, by omega, by go_num, rfl, hx0, hx1, HN2⟩
            case measure => simp [intOf]; omega
        · have hbad : Lx.badI x = true := by
            rcases HK.out with h | ⟨h, h'⟩
            · rw [h]; exact Lx.bad_35
            · obtain ⟨n1, n2, n3⟩ := HN.out
              have hsg : Lx.sgnI c = false := by
                rw [Bool.eq_false_iff]; intro hs
                obtain ⟨j, hj, e⟩ := HG.out.2 hs
                exact h' j hj (by omega) e
              rw [h]; simp [Lx.badI, n1, n2, n3, hsg]
          have hue : ((UInt8.ofNat x.toNat).toNat : Int) = x := by
            rw [UInt8.toNat_ofNat_of_lt' (by rw [show UInt8.size = 256 from rfl]; omega)]; omega
          have hsl := Lx.scanL_bad xs bs (UInt8.ofNat x.toNat) [32, 97] HR.out (by rw [hue]; exact hbad) (by simp; omega)
          clear HK HN HG hbad
          obtain ⟨u, huu⟩ : ∃ u, u = UInt8.ofNat x.toNat := ⟨_, rfl⟩
          rw [← huu] at hsl hue
          have HU : Hid ((u.toNat : Int) = x) := hue
          have HS : Hid (Lx.scanL (bs ++ [32, u] ++ [32, 97]) = ([], bs.length + 1, 3)) := by show _ = _; rw [List.append_assoc]; exact hsl
          clear hsl hue huu
          go_wp2_with fail
          refine (Twin_own bs _ _ _ (by omega) HO1.out).mono ?_
          rintro e w2 ⟨v2, rfl, hown2, hB2⟩
          have hs1 := hB1.size
          have hs2 := hB2.size
          go_wp2_with (at_builtin; refine wpList_append_own _ rfl (.tmp 88) (.tmp 90) 22 rfl w1.heap.size 5 j0 (.int .u8 0) 1 1 Tryd.underlying22 hj0 hy0 hyy1 hyy2 rfl (by decide) _ _ _ rfl (hown2.alloc _) ⟨w2.heap.size, 0, none⟩ 2 2 [.int .u8 32, .int .u8 x] rfl rfl ?e1 ?e2 ?e3 ?e4 ?e5 ?_)
          case e1 =>
            intro j q hj
            match j, hj with
            | 0, hj => simp at hj; subst hj; simp [Addr.add]
            | 1, hj => simp at hj; subst hj; simp [Addr.add]
          case e2 => intro q hq; simp at hq; rcases hq with rfl | rfl <;> rfl
          case e3 => unfold maxLen; omega
          case e4 => omega
          case e5 => simp; omega
          · intro v3 w3 hown3 hgrow3 _
            have hR3 := first_step HU.out hB1 rfl hB2 hown2 hown3 hgrow3
            clear hown2 hown3 hgrow3
            obtain ⟨q1, q2, q3⟩ := hR3
            have hs3 := q3.size
            have hl3 : (bs ++ [32, u]).length = bs.length + 2 := by simp
            have HS2 : Hid (Lx.scanL (bs ++ [32, u] ++ [32, 97]) = ([], bs.length + 1, 3)) := HS.out
            have hl4 : (bs ++ [32, u] ++ [32, 97]).length = bs.length + 4 := by simp
            clear HS
            generalize bs ++ [32, u] = l3 at *
            go_wp2_with (at_builtin; refine Lib.wpList_append_own_string _ rfl (.tmp 91) (.const (.string ⟨#[32, 97]⟩)) 22 9 rfl w1.heap.size 5 j0 Tryd.underlying22 Tryd.underlying9 hj0 hy0 hyy1 hyy2 _ _ _ rfl q1 ⟨#[32, 97]⟩ rfl ?f1 ?f2 ?f3 ?_)
            case f1 => rw [show (⟨#[32, 97]⟩ : ByteArray).size = 2 from rfl]; unfold maxLen; omega
            case f2 => rw [show (⟨#[32, 97]⟩ : ByteArray).size = 2 from rfl]; omega
            case f3 => exact hs3
            · intro v4 w4 hown4 hgrow4 _
              have hlt3 := q1.lt
              have hB4 : Below w1.heap.size w1 w4 := Below.grown q3 hgrow4 hs3 (fun k hk => (hlt3 k hk).1)
              have hown4' : w4.ownsRow w1.heap.size 5 1 v4 (l3 ++ [32, 97]).length ((l3 ++ [32, 97]).map byteV) := by
                rw [List.length_append, List.map_append, hl3]; exact hown4
              have hsc := Scan_own (l3 ++ [32, 97]) _ v4 w4 (by omega) hown4'
              rw [HS2.out] at hsc
              have hBB : Below w.heap.size w w4 := hB1.trans (hB4.mono hs1)
              clear hown4 hgrow4 hown4' q1 q2 q3 hlt3 hB4 HS2
              go_wp2_with fail
              refine hsc.mono ?_
              clear hsc
              rintro e w5 ⟨v5, rfl, hown5, hB5⟩
              obtain ⟨av5, cv5, rfl⟩ := own_none hown5
              clear hown5
              have hs5 := hBB.size
              have hq : (((bs.length + 1 : Nat) : Int) == (bs.length : Int) + 1) = true := by simp
              go_wp2_with fail
              refine (wakes_any _).mono ?_
              rintro e w6 ⟨rfl, hb6⟩
              go_wp2_with fail
              go_ret
              have h9 := hBB.trans (hB5.mono hs5)
              exact ⟨rfl, h9.trans (hb6.mono h9.size)⟩
  all_goals
    try subst hc
    go_enter Tryd.func6, Tryd.ntmps6
    go_wp2_with fail
    refine hj.mono ?_
    clear hj
    rintro e w1 ⟨v1, rfl, hown1, hB1⟩
    obtain ⟨av1, cv1, rfl⟩ := own_shape hown1
    have HO1 : Hid (w1.ownsRow w.heap.size 5 1 (.slice av1 bs.length cv1) bs.length (bs.map byteV)) := hown1
    clear hown1
    go_wp2_with fail
    have h9 : (⟨#[123, 125, 40, 41, 58, 59, 44, 91, 93]⟩ : ByteArray).size ≤ 9 := by decide
    generalize (⟨#[123, 125, 40, 41, 58, 59, 44, 91, 93]⟩ : ByteArray) = S at *
    go_loop [7, 9] (fun cc i => ∃ k : Nat, k ≤ S.size ∧ i = .int .i64 k ∧ cc = .int .u8 35) (fun _ i => S.size - (intOf i).toNat)
    case atStart => exact ⟨0, Nat.zero_le _, rfl, rfl⟩
    case round =>
      obtain ⟨k, hk, rfl, rfl⟩ := hrel
      by_cases hlt : k < S.size
      · by_cases heq : ((S[k].toNat : Nat) : Int) = 35
        · have hb : (((S[k].toNat : Nat) : Int) == 35) = true := by simpa using heq
          clear heq
          go_wp2_with fail
          go_round
          case rel => exact ⟨k + 1, by omega, by go_num, rfl⟩
          case measure => simp [intOf]; omega
        · have hb : (((S[k].toNat : Nat) : Int) == 35) = false := by simpa using heq
          clear heq
          go_wp2_with fail
          go_round
          case rel => exact ⟨k + 1, by omega, by go_num, rfl⟩
          case measure => simp [intOf]; omega
      · have hsl := Lx.scanL_bad xs bs 35 [32, 97] HR.out Lx.bad_35 (by simp; omega)
        obtain ⟨u, huu⟩ : ∃ u : UInt8, u = 35 := ⟨_, rfl⟩
        rw [← huu] at hsl
        have HU : Hid ((u.toNat : Int) = 35) := by rw [huu]; rfl
        have HS : Hid (Lx.scanL (bs ++ [32, u] ++ [32, 97]) = ([], bs.length + 1, 3)) := by show _ = _; rw [List.append_assoc]; exact hsl
        clear hsl huu
        go_wp2_with fail
        refine (Twin_own bs _ _ _ (by omega) HO1.out).mono ?_
        rintro e w2 ⟨v2, rfl, hown2, hB2⟩
        have hs1 := hB1.size
        have hs2 := hB2.size
        go_wp2_with (at_builtin; refine wpList_append_own _ rfl (.tmp 88) (.tmp 90) 22 rfl w1.heap.size 5 j0 (.int .u8 0) 1 1 Tryd.underlying22 hj0 hy0 hyy1 hyy2 rfl (by decide) _ _ _ rfl (hown2.alloc _) ⟨w2.heap.size, 0, none⟩ 2 2 [.int .u8 32, .int .u8 35] rfl rfl ?e1 ?e2 ?e3 ?e4 ?e5 ?_)
        case e1 =>
          intro j q hj
          match j, hj with
          | 0, hj => simp at hj; subst hj; simp [Addr.add]
          | 1, hj => simp at hj; subst hj; simp [Addr.add]
        case e2 => intro q hq; simp at hq; rcases hq with rfl | rfl <;> rfl
        case e3 => unfold maxLen; omega
        case e4 => omega
        case e5 => simp; omega
        · intro v3 w3 hown3 hgrow3 _
          have hR3 := first_step HU.out hB1 rfl hB2 hown2 hown3 hgrow3
          clear hown2 hown3 hgrow3
          obtain ⟨q1, q2, q3⟩ := hR3
          have hs3 := q3.size
          have hl3 : (bs ++ [32, u]).length = bs.length + 2 := by simp
          have HS2 : Hid (Lx.scanL (bs ++ [32, u] ++ [32, 97]) = ([], bs.length + 1, 3)) := HS.out
          have hl4 : (bs ++ [32, u] ++ [32, 97]).length = bs.length + 4 := by simp
          clear HS
          generalize bs ++ [32, u] = l3 at *
          go_wp2_with (at_builtin; refine Lib.wpList_append_own_string _ rfl (.tmp 91) (.const (.string ⟨#[32, 97]⟩)) 22 9 rfl w1.heap.size 5 j0 Tryd.underlying22 Tryd.underlying9 hj0 hy0 hyy1 hyy2 _ _ _ rfl q1 ⟨#[32, 97]⟩ rfl ?f1 ?f2 ?f3 ?_)
          case f1 => rw [show (⟨#[32, 97]⟩ : ByteArray).size = 2 from rfl]; unfold maxLen; omega
          case f2 => rw [show (⟨#[32, 97]⟩ : ByteArray).size = 2 from rfl]; omega
          case f3 => exact hs3
          · intro v4 w4 hown4 hgrow4 _
            have hlt3 := q1.lt
            have hB4 : Below w1.heap.size w1 w4 := Below.grown q3 hgrow4 hs3 (fun k hk => (hlt3 k hk).1)
            have hown4' : w4.ownsRow w1.heap.size 5 1 v4 (l3 ++ [32, 97]).length ((l3 ++ [32, 97]).map byteV) := by
              rw [List.length_append, List.map_append, hl3]; exact hown4
            have hsc := Scan_own (l3 ++ [32, 97]) _ v4 w4 (by omega) hown4'
            rw [HS2.out] at hsc
            have hBB : Below w.heap.size w w4 := hB1.trans (hB4.mono hs1)
            clear hown4 hgrow4 hown4' q1 q2 q3 hlt3 hB4 HS2
            go_wp2_with fail
            refine hsc.mono ?_
            clear hsc
            rintro e w5 ⟨v5, rfl, hown5, hB5⟩
            obtain ⟨av5, cv5, rfl⟩ := own_none hown5
            clear hown5
            have hs5 := hBB.size
            have hq : (((bs.length + 1 : Nat) : Int) == (bs.length : Int) + 1) = true := by simp
            go_wp2_with fail
            refine (wakes_any _).mono ?_
            rintro e w6 ⟨rfl, hb6⟩
            go_wp2_with fail
            go_ret
            have h9 := hBB.trans (hB5.mono hs5)
            exact ⟨rfl, h9.trans (hb6.mono h9.size)⟩

end Go.Proofs.YtiglcjcellhggaaDoor

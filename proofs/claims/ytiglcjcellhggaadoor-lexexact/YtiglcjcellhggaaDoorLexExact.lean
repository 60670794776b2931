/- LexExact: the walk: the program's answers are the page's. -/
import Derived.Test.YtiglcjcellhggaaDoorRefScan
import Derived.Test.YtiglcjcellhggaaDoorRefJoin
import Derived.Test.YtiglcjcellhggaaDoorTokSame
namespace Go.Proofs.YtiglcjcellhggaaDoor
open Go.RowKit
set_option linter.unusedVariables false
set_option linter.unusedSimpArgs false

def IsRow (k : IntKind) (w : World) (a : Option Addr) (len cap : Nat) (zs : List Int) : Prop :=
  (a = none ∧ len = 0 ∧ cap = 0 ∧ zs = []) ∨
  ∃ x, a = some x ∧ len ≤ cap ∧ cap ≤ maxLen ∧ zs.length = cap ∧ (∀ i, i < zs.length → w.cell? (x.add i) = some (.int k (zs.getD i 0))) ∧ ∀ n ∈ zs, (Lit.int k n).wf = true
def RowB (w : World) (a : Option Addr) (n c : Nat) (bs : List UInt8) : Prop :=
  (a = none ∧ n = 0 ∧ c = 0 ∧ bs = []) ∨
  ∃ x, a = some x ∧ n ≤ c ∧ bs.length = n ∧ (n = 0 ∨ ∃ b off, x = ⟨b, off, none⟩ ∧ b < w.heap.size ∧ ∀ k, k < bs.length → w.cell? ⟨b, off + k, none⟩ = some (.int .u8 ((bs.getD k 0).toNat : Int)))
theorem RowB.len {w : World} {a : Option Addr} {n c : Nat} {bs : List UInt8} (h : RowB w a n c bs) : bs.length = n := by
  rcases h with ⟨_, rfl, _, rfl⟩ | ⟨x, _, _, h, _⟩
  · rfl
  · exact h
theorem RowB.on {w w' : World} {a : Option Addr} {n c : Nat} {bs : List UInt8} (h : RowB w a n c bs) (hb : Below w.heap.size w w') : RowB w' a n c bs := by
  rcases h with h | ⟨x, rfl, h1, h2, h3⟩
  · exact .inl h
  · refine .inr ⟨x, rfl, h1, h2, ?_⟩
    rcases h3 with h3 | ⟨b, off, rfl, hlt, hc⟩
    · exact .inl h3
    · exact .inr ⟨b, off, rfl, Nat.lt_of_lt_of_le hlt hb.size, fun k hk => (hb.cell (by exact hlt)).trans (hc k hk)⟩
theorem RowB.row {w : World} {a : Option Addr} {n c : Nat} {bs : List UInt8} (h : RowB w a n c bs) : RowAt w a bs := by
  rcases h with ⟨_, _, _, rfl⟩ | ⟨x, rfl, h1, h2, h3⟩
  · exact .inl rfl
  · rcases h3 with h3 | ⟨b, off, rfl, hlt, hc⟩
    · exact .inl (List.eq_nil_of_length_eq_zero (by omega))
    · exact .inr ⟨b, off, rfl, hlt, hc⟩
theorem IsToks.on {w w' : World} {a : Option Addr} {n c : Nat} {ts : List Lx.ATok} (h : IsToks w a n c ts) (hb : Below w.heap.size w w') : IsToks w' a n c ts := by
  obtain ⟨h1, h2, h3, h4, h5⟩ := h
  refine ⟨h1, h2, h3, h4, ?_⟩
  rcases h5 with h5 | ⟨b, off, rfl, hlt, hc⟩
  · exact .inl h5
  · exact .inr ⟨b, off, rfl, Nat.lt_of_lt_of_le hlt hb.size, hc.on hb hlt⟩

set_option maxHeartbeats 1000000 in
theorem Twin_empty (ad : Addr) (c : Nat) (w : World) :
    Calls Tryd.prog 7 #[.slice (some ad) 0 c] w fun e w' => ∃ v, e = .returned v ∧ w'.ownsRow w.heap.size 5 1 v 0 [] ∧ Below w.heap.size w w' := by
  obtain ⟨j0, hj, hy0, hyy1, hyy2⟩ := info_parts Tryd.info5
  go_enter Tryd.func7, Tryd.ntmps7
  go_wp2_with (at_builtin; refine wpList_append_own _ rfl (.tmp 4) (.tmp 5) 22 rfl w.heap.size 5 j0 (.int .u8 0) 1 1 Tryd.underlying22 hj hy0 hyy1 hyy2 rfl (by decide) _ _ _ rfl (World.ownsRow_nil _ _ _ _) ad 0 c [] rfl ?c0 ?c1 ?c2 ?c3 ?c4 ?c5 ?_)
  case c0 => rfl
  case c1 => intro j u hj; simp at hj
  case c2 => intro u hu; simp at hu
  case c3 => unfold maxLen; omega
  case c4 => omega
  case c5 => exact Nat.le_refl _
  · intro v' w' hown hgrow _
    have hB : Below w.heap.size w w' := Below.grown (Below.refl _ _) hgrow (Nat.le_refl _) (fun k hk => by simp [Value.ownBlock] at hk)
    have hown' : w'.ownsRow w.heap.size 5 1 v' 0 [] := by simpa using hown
    clear hown hgrow
    go_wp2
    go_ret
    exact ⟨_, rfl, hown', hB⟩
theorem Twin_row (bs : List UInt8) (a : Option Addr) (n c : Nat) (w : World) (hn : n ≤ 7000) (h : RowB w a n c bs) :
    Calls Tryd.prog 7 #[.slice a n c] w fun e w' => ∃ v, e = .returned v ∧ w'.ownsRow w.heap.size 5 1 v bs.length (bs.map byteV) ∧ Below w.heap.size w w' := by
  rcases h with ⟨rfl, rfl, rfl, rfl⟩ | ⟨x, rfl, h1, rfl, h3⟩
  · refine (Twin_nil w).mono ?_
    rintro e w' ⟨rfl, rfl⟩
    exact ⟨_, rfl, World.ownsRow_nil _ _ _ _, Below.refl _ _⟩
  · rcases h3 with h3 | ⟨b, off, rfl, hlt, hc⟩
    · have : bs = [] := List.eq_nil_of_length_eq_zero h3
      subst this
      exact Twin_empty x c w
    · exact Twin_any bs b off c w (by omega) hc
theorem scanL_long (bs : List UInt8) (h : 6000 < bs.length) : Lx.scanL bs = ([], 0, 2) := by rw [Lx.scanL, if_pos h]
theorem Scan_is (bs : List UInt8) (l : List Lx.Tok) (p q : Nat) (hS : Lx.scanL bs = (l, p, q)) (base : Nat) (v : Value) (w : World) (hn : bs.length ≤ 7000) (hown : w.ownsRow base 5 1 v bs.length (bs.map byteV)) :
    Calls Tryd.prog 8 #[v] w fun e w' => ∃ v', e = .returned (.tuple #[v', .int .i64 (p : Int), .int .i64 (q : Int)]) ∧ w'.ownsRow w.heap.size 25 4 v' l.length (toksCells l) ∧ Below w.heap.size w w' := by
  by_cases h6 : 6000 < bs.length
  · rw [scanL_long bs h6] at hS
    simp only [Prod.mk.injEq] at hS
    obtain ⟨rfl, rfl, rfl⟩ := hS
    obtain ⟨a, c, rfl⟩ := own_shape hown
    refine (Scan_long a bs.length c h6 (by unfold maxLen; omega) w).mono ?_
    rintro e w' ⟨rfl, rfl⟩
    exact ⟨_, rfl, World.ownsRow_nil _ _ _ _, Below.refl _ _⟩
  · have h := Scan_own bs base v w (by omega) hown
    rw [hS] at h
    exact h
theorem refScan_is (bs : List UInt8) (l : List Lx.Tok) (p q : Nat) (hS : Lx.scanL bs = (l, p, q)) (a : Option Addr) (n c : Nat) (w : World) (hn : n ≤ 7000) (h : RowB w a n c bs) :
    Calls Tryd.prog 9 #[.slice a n c] w fun e w' => ∃ v', e = .returned (.tuple #[v', .int .i64 (p : Int), .int .i64 (q : Int)]) ∧ w'.ownsRow w.heap.size 25 4 v' l.length (toksCells l) ∧ Below w.heap.size w w' := by
  have hl := h.len
  by_cases h6 : 6000 < bs.length
  · rw [scanL_long bs h6] at hS
    simp only [Prod.mk.injEq] at hS
    obtain ⟨rfl, rfl, rfl⟩ := hS
    refine (refScan_long a n c (by omega) (by unfold maxLen; omega) w).mono ?_
    rintro e w' ⟨rfl, rfl⟩
    exact ⟨_, rfl, World.ownsRow_nil _ _ _ _, Below.refl _ _⟩
  · have hemp : n = 0 → Calls Tryd.prog 9 #[.slice a n c] w fun e w' => ∃ v', e = .returned (.tuple #[v', .int .i64 (p : Int), .int .i64 (q : Int)]) ∧ w'.ownsRow w.heap.size 25 4 v' l.length (toksCells l) ∧ Below w.heap.size w w' := fun h0 => by
      subst h0
      have : bs = [] := List.eq_nil_of_length_eq_zero hl
      subst this
      have hS' : Lx.scanL [] = ([], 0, 0) := rfl
      rw [hS'] at hS
      simp only [Prod.mk.injEq] at hS
      obtain ⟨rfl, rfl, rfl⟩ := hS
      refine (refScan_empty a c w).mono ?_
      rintro e w' ⟨rfl, rfl⟩
      exact ⟨_, rfl, World.ownsRow_nil _ _ _ _, Below.refl _ _⟩
    rcases h with ⟨_, h0, _, _⟩ | ⟨x, rfl, h1, rfl, h3⟩
    · exact hemp h0
    · rcases h3 with h3 | ⟨b, off, rfl, hlt, hc⟩
      · exact hemp h3
      · have h := refScan_any bs b off c w (by omega) h1 hlt hc
        rw [hS] at h
        exact h
theorem Join_is (ts : List Lx.ATok) (x : Int) (jb : List UInt8) (h1 : errOf (Lx.joinL ts) = x) (h2 : (Lx.joinL ts).getD [] = jb) (a : Option Addr) (n c : Nat) (w : World) (hn : n ≤ 1000) (ht : Tab w) (hx : IsToks w a n c ts) :
    Calls Tryd.prog 10 #[.slice a n c] w fun e w' => ∃ v, e = .returned (.tuple #[v, .int .i64 x]) ∧ w'.ownsRow w.heap.size 5 1 v jb.length (jb.map byteV) ∧ Below w.heap.size w w' := by
  subst h1 h2
  exact Join_all ts a n c w hn ht hx
theorem refJoin_is (ts : List Lx.ATok) (x : Int) (jb : List UInt8) (h1 : errOf (Lx.joinL ts) = x) (h2 : (Lx.joinL ts).getD [] = jb) (a : Option Addr) (n c : Nat) (w : World) (hn : n ≤ 1000) (hx : IsToks w a n c ts) :
    Calls Tryd.prog 11 #[.slice a n c] w fun e w' => ∃ v, e = .returned (.tuple #[v, .int .i64 x]) ∧ w'.ownsRow w.heap.size 5 1 v jb.length (jb.map byteV) ∧ Below w.heap.size w w' := by
  subst h1 h2
  exact refJoin_all ts a n c w hn hx
theorem Num_is2 (s : ByteArray) (x : Int) (y : Bool) (h1 : (Lx.numL s.data.toList).getD 0 = x) (h2 : (Lx.numL s.data.toList).isSome = y) (hs : s.size ≤ maxLen) (w : World) :
    Calls Tryd.prog 12 #[.string s] w fun e w' => e = .returned (.tuple #[.int .i64 x, .bool y]) ∧ w' = w := by
  subst h1 h2
  exact Num_any s hs w
theorem refNum_is2 (s : ByteArray) (x : Int) (y : Bool) (h1 : (Lx.numL s.data.toList).getD 0 = x) (h2 : (Lx.numL s.data.toList).isSome = y) (hs : s.size ≤ maxLen) (w : World) :
    Calls Tryd.prog 13 #[.string s] w fun e w' => e = .returned (.tuple #[.int .i64 x, .bool y]) ∧ w' = w := by
  subst h1 h2
  exact refNum_is s _ rfl hs w

set_option maxHeartbeats 1000000 in
theorem exact_long (s : ByteArray) (a1 a2 : Option Addr) (n1 c1 n2 c2 : Nat) (hs : s.size ≤ maxLen) (hm1 : n1 ≤ maxLen) (hm2 : n2 ≤ maxLen) (h : 100 < s.size ∨ (s.size ≤ 100 ∧ 7000 < n1) ∨ (s.size ≤ 100 ∧ n1 ≤ 7000 ∧ 400 < n2)) (w : World) :
    Calls Tryd.prog 3 #[.string s, .slice a1 n1 c1, .slice a2 n2 c2] w fun e w' => e = .returned (.bool true) ∧ Below w.heap.size w w' := by
  unfold maxLen at hs hm1 hm2
  rcases h with h | h | h
  all_goals
    go_enter Tryd.func3, Tryd.ntmps3
    go_wp2_with fail
    go_ret
    exact ⟨rfl, Below.refl _ _⟩

set_option maxRecDepth 100000 in
set_option maxHeartbeats 4000000 in
theorem exact_walk (s : ByteArray) (a1 a2 : Option Addr) (n1 c1 n2 c2 : Nat) (bs : List UInt8) (xs : List Lx.ATok) (w : World) (ht : Tab w) (hr : RowB w a1 n1 c1 bs) (hx : IsToks w a2 n2 c2 xs) (h1 : s.size ≤ 100) (h2 : n1 ≤ 7000) (h3 : n2 ≤ 400) :
    Calls Tryd.prog 3 #[.string s, .slice a1 n1 c1, .slice a2 n2 c2] w fun e w' => e = .returned (.bool true) ∧ Below w.heap.size w w' := by
  have hsz : s.size ≤ maxLen := by unfold maxLen; omega
  have hbl := hr.len
  obtain ⟨l, p, q, hS⟩ : ∃ l p q, Lx.scanL bs = (l, p, q) := ⟨_, _, _, rfl⟩
  have hll : l.length ≤ 7000 := by have := Lx.scanL_count bs; rw [hS] at this; simp at this; omega
  obtain ⟨x, hE⟩ : ∃ x, errOf (Lx.joinL xs) = x := ⟨_, rfl⟩
  obtain ⟨jb, hJ⟩ : ∃ jb, (Lx.joinL xs).getD [] = jb := ⟨_, rfl⟩
  have hjl : jb.length ≤ 100000 := by
    have hxl := hx.1
    cases e : Lx.joinL xs with
    | none => rw [e] at hJ; subst hJ; simp
    | some r => rw [e] at hJ; have := Lx.joinGo_len xs true [] r e; simp at this hJ; subst hJ; omega
  obtain ⟨nx, hN1⟩ : ∃ nx, (Lx.numL s.data.toList).getD 0 = nx := ⟨_, rfl⟩
  obtain ⟨ny, hN2⟩ : ∃ ny, (Lx.numL s.data.toList).isSome = ny := ⟨_, rfl⟩
  obtain ⟨nm, hNm⟩ : ∃ nm, Lx.nameL s.data.toList = nm := ⟨_, rfl⟩
  have KS := hide hS
  have KE := hide hE
  have KJ := hide hJ
  have K1 := hide hN1
  have K2 := hide hN2
  have KM := hide hNm
  have KT := hide ht
  have KR := hide hr
  have KX := hide hx
  have KB := hide hbl
  have KZ := hide hsz
  clear hS hE hJ hN1 hN2 hNm ht hr hx hbl hsz
  go_enter Tryd.func3, Tryd.ntmps3
  go_wp2_with fail
  go_loop [7] (fun i => ∃ k : Nat, k ≤ n2 ∧ i = .int .i64 k) (fun i => n2 - (intOf i).toNat)
  case atStart => exact ⟨0, Nat.zero_le _, rfl⟩
  case round =>
    obtain ⟨k, hk, rfl⟩ := hrel
    by_cases hlt : k < n2
    · obtain ⟨t1, t2, t3, t4, t5⟩ := KX.out
      rcases t5 with t5 | ⟨b, off, rfl, hb, hc⟩
      · omega
      · obtain ⟨t, htk⟩ : ∃ t, xs[k]? = some t := ⟨xs[k]'(by omega), List.getElem?_eq_getElem _⟩
        obtain ⟨_, hd, _, _⟩ := hc k t htk
        have htl := t4 t (List.mem_of_getElem? htk)
        have hz := str_size t.text
        clear hc htk t1 t2 t3 t4 KS KE KJ K1 K2 KM KT KR KX KB KZ
        generalize (⟨t.text.toArray⟩ : ByteArray) = S at *
        unfold maxLen at htl
        have hz' : S.size ≤ 9223372036854775807 := by omega
        clear hz htl
        by_cases h100 : 100 < S.size
        · go_wp2_with fail
          go_ret
          exact ⟨rfl, Below.refl _ _⟩
        · go_wp2_with fail
          go_round
          case rel => exact ⟨k + 1, by omega, by go_num⟩
          case measure => simp [intOf]; omega
    · go_wp2_with fail
      refine (Twin_row bs a1 n1 c1 w h2 KR.out).mono ?_
      rintro e w1 ⟨v1, rfl, hown1, hB1⟩
      obtain ⟨av1, cv1, rfl⟩ := own_shape hown1
      have A1 := hide hown1
      have B1 := hide hB1
      clear hown1 hB1
      go_wp2_with fail
      refine (Scan_is bs l p q KS.out _ _ w1 (by rw [KB.out]; exact h2) A1.out).mono ?_
      rintro e w2 ⟨v2, rfl, hown2, hB2⟩
      obtain ⟨av2, cv2, rfl⟩ := own_shape hown2
      have A2 := hide hown2
      have B2 := hide hB2
      have C2 := hide (B1.out.trans (hB2.mono B1.out.size))
      clear hown2 hB2
      go_wp2_with fail
      refine (refScan_is bs l p q KS.out a1 n1 c1 w2 h2 (KR.out.on C2.out)).mono ?_
      rintro e w3 ⟨v3, rfl, hown3, hB3⟩
      obtain ⟨av3, cv3, rfl⟩ := own_shape hown3
      have A3 := hide hown3
      have B3 := hide hB3
      have C3 := hide (C2.out.trans (hB3.mono C2.out.size))
      clear hown3 hB3
      go_wp2_with fail
      refine (Join_is xs x jb KE.out KJ.out a2 n2 c2 w3 (by omega) (KT.out.on C3.out) (KX.out.on C3.out)).mono ?_
      rintro e w4 ⟨v4, rfl, hown4, hB4⟩
      obtain ⟨av4, cv4, rfl⟩ := own_shape hown4
      have A4 := hide hown4
      have B4 := hide hB4
      have C4 := hide (C3.out.trans (hB4.mono C3.out.size))
      clear hown4 hB4
      go_wp2_with fail
      refine (refJoin_is xs x jb KE.out KJ.out a2 n2 c2 w4 (by omega) (KX.out.on C4.out)).mono ?_
      rintro e w5 ⟨v5, rfl, hown5, hB5⟩
      obtain ⟨av5, cv5, rfl⟩ := own_shape hown5
      have A5 := hide hown5
      have B5 := hide hB5
      have C5 := hide (C4.out.trans (hB5.mono C4.out.size))
      clear hown5 hB5
      have D2 := hide (((own_tokRow A2.out).on B3.out).on B4.out |>.on B5.out)
      have D3 := hide (((own_tokRow A3.out).on B4.out).on B5.out)
      have D4 := hide ((own_rowAt A4.out).on B5.out)
      have D5 := hide (own_rowAt A5.out)
      have D1 := hide ((((own_rowAt A1.out).on B2.out).on B3.out).on B4.out |>.on B5.out)
      have D0 := hide (KR.out.on C5.out).row
      clear A1 A2 A3 A4 A5 B1 B2 B3 B4 B5 C2 C3 C4
      go_wp2_with fail
      refine (Num_is2 s nx ny K1.out K2.out KZ.out _).mono ?_
      rintro e w6 ⟨rfl, g6⟩
      have g6' := g6.symm
      clear g6
      subst g6'
      go_wp2_with fail
      refine (refNum_is2 s nx ny K1.out K2.out KZ.out _).mono ?_
      rintro e w6 ⟨rfl, g6⟩
      have g6' := g6.symm
      clear g6
      subst g6'
      go_wp2_with fail
      refine (Name_is s nm KM.out KZ.out _).mono ?_
      rintro e w6 ⟨rfl, g6⟩
      have g6' := g6.symm
      clear g6
      subst g6'
      go_wp2_with fail
      refine (refName_is s nm KM.out KZ.out _).mono ?_
      rintro e w6 ⟨rfl, g6⟩
      have g6' := g6.symm
      clear g6
      subst g6'
      go_wp2_with fail
      refine (Tokens_same l av2 av3 cv2 cv3 _ (by omega) D2.out D3.out).mono ?_
      rintro e w6 ⟨rfl, hB6⟩
      have C6 := hide (C5.out.trans (hB6.mono C5.out.size))
      have F4 := hide (D4.out.on hB6)
      have F5 := hide (D5.out.on hB6)
      have F1 := hide (D1.out.on hB6)
      have F0 := hide (D0.out.on hB6)
      clear hB6 D0 D1 D2 D3 D4 D5 C5
      go_wp2_with fail
      refine (Bytes_same jb av4 av5 cv4 cv5 _ hjl F4.out F5.out).mono ?_
      rintro e w7 ⟨rfl, hB7⟩
      have C7 := hide (C6.out.trans (hB7.mono C6.out.size))
      have G1 := hide (F1.out.on hB7)
      have G0 := hide (F0.out.on hB7)
      clear hB7 F0 F1 F4 F5 C6
      have hb8 := Bytes_same bs av1 a1 cv1 c1 w7 (by rw [KB.out]; omega) G1.out G0.out
      rw [KB.out] at hb8
      go_wp2_with fail
      rw [KB.out]
      refine hb8.mono ?_
      clear hb8
      rintro e w8 ⟨rfl, hB8⟩
      have C8 := hide (C7.out.trans (hB8.mono C7.out.size))
      clear hB8 C7 G0 G1
      go_wp2_with fail
      refine (wakes_any _).mono ?_
      rintro e w9 ⟨rfl, hB9⟩
      have C9 := hide (C8.out.trans (hB9.mono C8.out.size))
      clear hB9 C8
      go_wp2_with fail
      go_ret
      exact ⟨rfl, C9.out⟩

end Go.Proofs.YtiglcjcellhggaaDoor

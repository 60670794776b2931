/- LexPlaces: the walk: each word begins where it is told to, and ends ahead of the next one. -/
import Derived.Test.YtiglcjcellhggaaRefWord
namespace Go.Proofs.Ytiglcjcellhggaa
open Go.RowKit
set_option linter.unusedVariables false
set_option linter.unusedSimpArgs false

theorem toksCells_get : ∀ (l : List Lx.Tok) (j c : Nat) (t : Lx.Tok), l[j]? = some t → c < 4 → (toksCells l)[j * 4 + c]? = (tokCells t)[c]?
  | [], j, c, t, h, _ => by simp at h
  | x :: r, 0, c, t, h, hc => by
    simp at h; subst h
    show (tokCells x ++ toksCells r)[0 * 4 + c]? = _
    rw [Nat.zero_mul, Nat.zero_add, List.getElem?_append_left (by exact hc)]
  | x :: r, j + 1, c, t, h, hc => by
    show (tokCells x ++ toksCells r)[(j + 1) * 4 + c]? = _
    rw [List.getElem?_append_right (by show 4 ≤ _; omega), show (j + 1) * 4 + c - (tokCells x).length = j * 4 + c from by show (j + 1) * 4 + c - 4 = _; omega]
    exact toksCells_get r j c t (by simpa using h) hc

set_option maxHeartbeats 1000000 in
theorem places_short (a : Option Addr) (cap : Nat) (w : World) :
    Calls Try.prog 4 #[.slice a 0 cap] w fun e w' => e = .returned (.bool true) ∧ Below w.heap.size w w' := by
  go_enter Try.func4, Try.ntmps4
  go_wp2_with fail
  refine (Scan_empty _ _ _).mono ?_
  rintro e w1 ⟨rfl, rfl⟩
  go_wp2_with fail
  refine wp_loop_rounds 1 ?_
  rw [rounds_succ]
  go_wp2_with fail
  refine (wakes_any _).mono ?_
  rintro e w3 ⟨rfl, hb3⟩
  go_wp2_with fail
  go_ret
  exact ⟨rfl, hb3⟩

set_option maxHeartbeats 1000000 in
theorem places_long (a : Option Addr) (len cap : Nat) (h : 6000 < len) (hm : len ≤ maxLen) (w : World) :
    Calls Try.prog 4 #[.slice a len cap] w fun e w' => e = .returned (.bool true) ∧ Below w.heap.size w w' := by
  have hm' := hm
  unfold maxLen at hm'
  by_cases h7 : 7000 < len
  · go_enter Try.func4, Try.ntmps4
    go_wp2_with fail
    go_ret
    exact ⟨rfl, Below.refl _ _⟩
  · go_enter Try.func4, Try.ntmps4
    go_wp2_with fail
    refine (Scan_long _ len _ h hm _).mono ?_
    rintro e w1 ⟨rfl, rfl⟩
    go_wp2_with fail
    refine (wakes_any _).mono ?_
    rintro e w3 ⟨rfl, hb3⟩
    go_wp2_with fail
    go_ret
    exact ⟨rfl, hb3⟩

set_option maxHeartbeats 2000000 in
theorem places_walk (bs : List UInt8) (b off cap : Nat) (w : World) (hn : bs.length ≤ 6000) (hcap : bs.length ≤ cap) (hb : b < w.heap.size) (hpos : 0 < bs.length)
    (hc : ∀ k, k < bs.length → w.cell? ⟨b, off + k, none⟩ = some (.int .u8 ((bs.getD k 0).toNat : Int))) :
    Calls Try.prog 4 #[.slice (some ⟨b, off, none⟩) bs.length cap] w fun e w' => e = .returned (.bool true) ∧ Below w.heap.size w w' := by
  have hsc := Scan_any bs b off cap w hn hcap hb hc
  have hcount := Lx.scanL_count bs
  obtain ⟨l, a, e, hl⟩ : ∃ l a e, Lx.scanL bs = (l, a, e) := ⟨_, _, _, rfl⟩
  have hpl := Lx.scanL_placed bs hn l a e hl
  rw [hl] at hsc hcount
  clear hl
  have HC : Hid (∀ k, k < bs.length → w.cell? ⟨b, off + k, none⟩ = some (.int .u8 ((bs.getD k 0).toNat : Int))) := hc
  clear hc
  obtain ⟨len, hlen⟩ : ∃ len, len = bs.length := ⟨_, rfl⟩
  have HL : Hid (len = bs.length) := hlen
  rw [← hlen] at hn hcap hsc hcount hpos hpl ⊢
  clear hlen
  rcases hpl with ⟨rfl, rfl, hpl⟩ | ⟨rfl, rfl, hat⟩
  · have HP : Hid (Lx.Placed bs 0 l) := hpl
    clear hpl
    have hcount' : l.length ≤ len := hcount
    clear hcount
    go_enter Try.func4, Try.ntmps4
    go_wp2_with fail
    refine hsc.mono ?_
    clear hsc
    rintro e w1 ⟨v, rfl, hown0, hb1⟩
    have hown : w1.ownsRow w.heap.size 34 4 v l.length (toksCells l) := hown0
    clear hown0
    obtain ⟨av, capv, rfl⟩ := own_shape hown
    go_wp2_with fail
    have hB1 := hb1
    go_loopw [6, 7] (fun en i wr => ∃ j p : Nat, j ≤ l.length ∧ i = .int .i64 j ∧ en = .int .i64 p ∧ p ≤ len ∧ Below w1.heap.size w1 wr ∧ Hid (Lx.Placed bs p (l.drop j))) (fun _ i _ => l.length - (intOf i).toNat)
    case atStart => exact ⟨0, 0, by omega, rfl, rfl, by omega, Below.refl _ _, HP⟩
    case round =>
      obtain ⟨j, p, hj, rfl, rfl, hp, hbr, HPL⟩ := hrel
      clear HP
      by_cases hlt : j < l.length
      · obtain ⟨t, ht⟩ : ∃ t, l[j]? = some t := ⟨l[j], List.getElem?_eq_getElem hlt⟩
        have hdr : l.drop j = t :: l.drop (j + 1) := by
          rw [List.drop_eq_getElem_cons hlt]; congr 1
          rw [List.getElem?_eq_getElem hlt] at ht; simpa using ht
        obtain ⟨g, cap1, hv, hg, hg', hnc, hcm, hcell⟩ := own_some hown (by omega)
        simp only [Value.slice.injEq] at hv
        obtain ⟨rfl, _, rfl⟩ := hv
        have hce : ∀ c u, c < 4 → (tokCells t)[c]? = some u → wr.cell? ⟨g, j * 4 + c, none⟩ = some u := fun c u hc hu =>
          (hbr.cell (by exact hg')).trans (hcell _ _ (by rw [toksCells_get l j c t ht hc]; exact hu))
        have hc0 := hce 0 _ (by omega) rfl
        have hc1 := hce 1 _ (by omega) rfl
        have hc2 := hce 2 _ (by omega) rfl
        have hc3 := hce 3 _ (by omega) rfl
        rw [Nat.add_zero] at hc0
        have hplt : Lx.Placed bs p (t :: l.drop (j + 1)) := by rw [← hdr]; exact HPL.out
        obtain ⟨q1, hval, q2, q3, q4, q5⟩ := hplt
        have HV : Hid (Lx.ValidT t) := hval
        have HNX : Hid (Lx.Placed bs (t.pos + (Lx.tokW t).length) (l.drop (j + 1))) := q5
        clear hce hcell HPL hdr ht hval q5
        go_wp2_with fail
        refine (Word_valid t HV.out _ _).mono ?_
        rintro e w2 ⟨rfl, hb2⟩
        have hlw := tokW_len t HV.out
        have hc3' : w2.cell? ⟨g, j * 4 + 3, none⟩ = some (.int .i64 (t.pos : Int)) := (hb2.cell (by exact Nat.lt_of_lt_of_le hg' hbr.size)).trans hc3
        have hcw : ∀ k, k < bs.length → w2.cell? ⟨b, off + k, none⟩ = some (.int .u8 ((bs.getD k 0).toNat : Int)) := fun k hk => by
          have h1 := hB1.size
          have h2 := hbr.size
          rw [hb2.cell (by show b < _; omega), hbr.cell (by show b < _; omega), hB1.cell (by exact hb)]
          exact HC.out k hk
        have hcv := fun cap' => conv_bytes bs w2 b off cap hcw t.pos (Lx.tokW t).length cap' q3
        rw [q4] at hcv
        have hBB : Below w1.heap.size w1 w2 := hbr.trans (hb2.mono hbr.size)
        have hsz := str_size (Lx.tokW t)
        have hne : 0 < (Lx.tokW t).length := List.length_pos_iff.2 q2
        have hem := isEmpty_pos (⟨(Lx.tokW t).toArray⟩ : ByteArray) (by rw [hsz]; exact hne)
        rw [← HL.out] at q3
        clear hc0 hc1 hc2 hc3 hb2 hbr hcw q2 q4 HV
        generalize (Lx.tokW t).length = n at *
        generalize (⟨(Lx.tokW t).toArray⟩ : ByteArray) = S at *
        generalize t.pos = q at *
        have HSZ : Hid (S.size = n) := hsz
        have hs1 : S.size ≤ 21 := by omega
        have hs2 : q + S.size ≤ len := by omega
        have hs3 : 0 < S.size := by omega
        have hqc : ¬ cap = q := by omega
        rw [← hsz] at hcv
        clear hsz
        go_wp2_with fail
        go_roundw
        case rel => exact ⟨j + 1, q + n, by omega, by go_num, by rw [← HSZ.out]; go_num, by omega, hBB, HNX⟩
        case measure => simp [intOf]; omega
      · go_wp2_with fail
        refine (wakes_any _).mono ?_
        rintro e w3 ⟨rfl, hb3⟩
        go_wp2_with fail
        go_ret
        exact ⟨rfl, (hB1.trans (hbr.mono hB1.size)).trans (hb3.mono (Nat.le_trans hB1.size hbr.size))⟩
  · go_enter Try.func4, Try.ntmps4
    go_wp2_with fail
    refine hsc.mono ?_
    clear hsc
    rintro e w1 ⟨v, rfl, hown, hb1⟩
    obtain ⟨av, capv, rfl⟩ := own_none hown
    clear hown
    go_wp2_with fail
    refine (wakes_any _).mono ?_
    rintro e w3 ⟨rfl, hb3⟩
    go_wp2_with fail
    go_ret
    exact ⟨rfl, hb1.trans (hb3.mono hb1.size)⟩

end Go.Proofs.Ytiglcjcellhggaa

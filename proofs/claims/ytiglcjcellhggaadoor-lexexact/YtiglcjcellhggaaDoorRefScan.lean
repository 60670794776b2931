/- What the page's Scan answers. -/
import Derived.Test.YtiglcjcellhggaaDoorRefNum
import Derived.Test.YtiglcjcellhggaaDoorToksRows
namespace Go.Proofs.YtiglcjcellhggaaDoor
open Go.RowKit
set_option linter.unusedVariables false
set_option linter.unusedSimpArgs false

theorem hideS {p : Prop} (h : p) : Hid p := h
theorem rscan_step {w wr w2 : World} {B : Nat} {v v' : Value} {acc : List Lx.Tok} {t : Lx.Tok} {o1 : Obj} (hB : B = w.heap.size) (hown : wr.ownsRow B 25 4 v acc.length (toksCells acc)) (hbel : Below B w wr)
    (hown2 : w2.ownsRow B 25 4 v' (acc.length + 1) (toksCells acc ++ [.int .i64 t.kind, .string ⟨t.text.toArray⟩, .int .i64 t.num, .int .i64 (t.pos : Int)])) (hg : (wr.alloc o1).grownBy w2 v.ownBlock) :
    w2.ownsRow B 25 4 v' (acc ++ [t]).length (toksCells (acc ++ [t])) ∧ Below B w w2 := by
  have e : toksCells (acc ++ [t]) = toksCells acc ++ [.int .i64 t.kind, .string ⟨t.text.toArray⟩, .int .i64 t.num, .int .i64 (t.pos : Int)] := by simp [toksCells, tokCells]
  refine ⟨by rw [e, List.length_append]; exact hown2, ?_⟩
  have h0 := hbel.size
  have hl := hown.lt
  exact Below.grown (hbel.alloc (by omega) _) hg (by simp; omega) (fun k hk => (hl k hk).1)

set_option maxRecDepth 100000 in
set_option maxHeartbeats 4000000 in
theorem refScan_any (bs : List UInt8) (b off cap : Nat) (w : World) (hn : bs.length ≤ 6000) (hcap : bs.length ≤ cap) (hb : b < w.heap.size)
    (hc : ∀ k, k < bs.length → w.cell? ⟨b, off + k, none⟩ = some (.int .u8 ((bs.getD k 0).toNat : Int))) :
    Calls Tryd.prog 9 #[.slice (some ⟨b, off, none⟩) bs.length cap] w fun e w' => ∃ v, e = .returned (.tuple #[v, .int .i64 ((Lx.scanL bs).2.1 : Int), .int .i64 ((Lx.scanL bs).2.2 : Int)]) ∧
      w'.ownsRow w.heap.size 25 4 v (Lx.scanL bs).1.length (toksCells (Lx.scanL bs).1) ∧ Below w.heap.size w w' := by
  obtain ⟨R, hR⟩ : ∃ R, R = Lx.scanL bs := ⟨_, rfl⟩
  rw [← hR]
  rw [Lx.scanL, if_neg (by omega)] at hR
  have HR : Hid (R = Lx.scanGo bs.length (bs.drop 0) 0 []) := hR
  clear hR
  have HC : Hid (∀ k, k < bs.length → w.cell? ⟨b, off + k, none⟩ = some (.int .u8 ((bs.getD k 0).toNat : Int))) := hc
  clear hc
  obtain ⟨len, hlen⟩ : ∃ len, len = bs.length := ⟨_, rfl⟩
  have HL : Hid (len = bs.length) := hlen
  rw [← hlen] at hn hcap ⊢
  clear hlen
  obtain ⟨i0, hi, hz0, hz1, hz2⟩ := info_parts Tryd.info25
  go_enter Tryd.func9, Tryd.ntmps9
  go_wp2
  go_loopw [5, 6] (fun v i wr => ∃ (k f : Nat) (acc : List Lx.Tok), k ≤ len ∧ i = .int .i64 k ∧ wr.ownsRow w.heap.size 25 4 v acc.length (toksCells acc) ∧ Below w.heap.size w wr ∧ acc.length ≤ k ∧ len - k ≤ f ∧ Hid (R = Lx.scanGo f (bs.drop k) k acc))
    (fun _ i _ => len - (intOf i).toNat)
  case atStart => exact ⟨0, len, [], Nat.zero_le _, rfl, World.ownsRow_nil _ _ _ _, Below.refl _ _, Nat.le_refl _, by omega, by rw [HL.out]; exact HR⟩
  case round =>
    obtain ⟨k, f, acc, hk, rfl, hown, hbel, hacc, hf, HK⟩ := hrel
    clear HR
    have hs0 := hbel.size
    by_cases hlt : k < len
    · have hck : wr.cell? ⟨b, off + k, none⟩ = some (.int .u8 ((bs.getD k 0).toNat : Int)) := (hbel.cell (by exact hb)).trans (HC.out k (by rw [← HL.out]; exact hlt))
      have hcw : Hid (∀ k, k < bs.length → wr.cell? ⟨b, off + k, none⟩ = some (.int .u8 ((bs.getD k 0).toNat : Int))) := fun k hk => (hbel.cell (by exact hb)).trans (HC.out k hk)
      obtain ⟨f, rfl⟩ : ∃ f', f = f' + 1 := ⟨f - 1, by omega⟩
      have hu := (bs.getD k 0).toNat_lt
      obtain ⟨c, hcc⟩ : ∃ c : Nat, c = (bs.getD k 0).toNat := ⟨_, rfl⟩
      rw [← hcc] at hck hu
      cases hbk : Lx.blk (bs.getD k 0) with
      | true =>
        have hbk' : Lx.blkI (c : Int) = true := by rw [hcc]; exact hbk
        have HB : Hid (R = Lx.scanGo f (bs.drop (k + 1)) (k + 1) acc) := by show _ = _; rw [HK.out, Lx.scanGo_blk bs k f acc (by rw [← HL.out]; exact hlt) hbk]
        clear hcc hbk HK
        go_wp2_with (go_at_call 22; refine (refBlank_any _ _).mono ?_; rintro e w' ⟨rfl, hw'⟩; have hw2 := hw'.symm; clear hw'; subst hw2)
        go_roundw
        case rel => exact ⟨k + 1, f, acc, by omega, by go_num, hown, hbel, by omega, by omega, HB⟩
        case measure => simp [intOf]; omega
      | false =>
        have hbk' : Lx.blkI (c : Int) = false := by rw [hcc]; exact hbk
        have HBK : Hid (Lx.blk (bs.getD k 0) = false) := hbk
        have HCC : Hid (c = (bs.getD k 0).toNat) := hcc
        have HLT : Hid (k < bs.length) := by show _ < _; rw [← HL.out]; exact hlt
        clear hcc hbk
        have hwl : k + Lx.wordLen (bs.drop k) ≤ len := by
          have := Lx.wordLen_le (bs.drop k); rw [List.length_drop, ← HL.out] at this; omega
        have hcv := fun cap' => conv_bytes bs wr b off cap hcw.out k (Lx.wordLen (bs.drop k)) cap' (by rw [← HL.out]; exact hwl)
        cases hs : Lx.sgn (bs.getD k 0) with
        | true =>
          have hs' : Lx.sgnI (c : Int) = true := by rw [HCC.out]; exact hs
          have hw1 : Lx.wordLen (bs.drop k) = 1 := Lx.wordLen_sgn bs k HLT.out hs
          have hwd : (bs.drop k).take 1 = [bs.getD k 0] := by rw [Lx.drop_at bs k HLT.out]; rfl
          have HB : Hid (R = Lx.scanGo f (bs.drop (k + 1)) (k + 1) (acc ++ [⟨3, [bs.getD k 0], 0, k⟩])) := by
            show _ = _
            rw [HK.out, Lx.scanGo_some bs k f acc ⟨3, [bs.getD k 0], 0, k⟩ HLT.out HBK.out (by rw [Lx.wordOf, hw1, hwd]; exact Lx.tokOfE_sgn _ _ hs), hw1]
          rw [hw1, hwd] at hcv
          obtain ⟨word, hword⟩ : ∃ l, l = [bs.getD k 0] := ⟨_, rfl⟩
          rw [← hword] at hcv HB
          clear hw1 hwd HK hs hword hwl hcw
          go_wp2_with (first | (go_at_call 22; refine (refBlank_any _ _).mono ?_; rintro e w' ⟨rfl, hw'⟩; have hw2 := hw'.symm; clear hw'; subst hw2) | (go_at_call 23; refine (refSign_any _ (by omega) (by omega) _).mono ?_; rintro e w' ⟨rfl, hw'⟩; have hw2 := hw'.symm; clear hw'; subst hw2) | (at_builtin; refine wpList_append_own _ rfl (.tmp 30) (.tmp 39) 23 rfl w.heap.size 25 i0 (.agg #[.int .i64 0, .string ⟨#[]⟩, .int .i64 0, .int .i64 0]) 4 40 Tryd.underlying23 hi hz0 hz1 hz2 rfl (by decide) _ _ _ rfl (hown.alloc _) ⟨wr.heap.size, 0, none⟩ 1 1 [.int .i64 3, .string ⟨word.toArray⟩, .int .i64 0, .int .i64 (k : Int)] rfl rfl ?c1 ?c2 ?c3 ?c4 ?c5 ?_))
          case c1 =>
            intro j u hj
            match j, hj with
            | 0, hj => simp at hj; subst hj; simp [Addr.add]
            | 1, hj => simp at hj; subst hj; simp [Addr.add]
            | 2, hj => simp at hj; subst hj; simp [Addr.add]
            | 3, hj => simp at hj; subst hj; simp [Addr.add]
          case c2 => intro u hu; simp at hu; rcases hu with rfl | rfl | rfl | rfl <;> rfl
          case c3 => unfold maxLen; omega
          case c4 => omega
          case c5 => simp; omega
          · intro v' w2 hown2 hgrow2 _
            have hR := rscan_step (t := ⟨3, word, 0, k⟩) rfl hown hbel hown2 hgrow2
            clear hown2 hgrow2 hown hbel hcv
            go_wp2
            go_roundw
            case rel => exact ⟨k + 1, f, acc ++ [⟨3, word, 0, k⟩], by omega, by go_num, hR.1, hR.2, by simp; omega, by omega, HB⟩
            case measure => simp [intOf]; omega
        | false =>
          have hs' : Lx.sgnI (c : Int) = false := by rw [HCC.out]; exact hs
          have HSL : Hid (Lx.signL (Lx.wordOf (bs.drop k)) = false) := by show _ = _; rw [Lx.drop_at bs k HLT.out]; exact Lx.tokOfE_not _ _ k hs
          obtain ⟨n, hnn⟩ : ∃ n, n = Lx.wordLen (bs.drop k) := ⟨_, rfl⟩
          obtain ⟨word, hword⟩ : ∃ l, l = (bs.drop k).take (Lx.wordLen (bs.drop k)) := ⟨_, rfl⟩
          have HW : Hid (word = Lx.wordOf (bs.drop k)) := hword
          have hwlen : word.length ≤ len := by rw [hword, List.length_take, List.length_drop]; rw [← HL.out]; omega
          rw [← hword] at hcv
          rw [← hnn] at hwl hcv
          have HNN : Hid (n = Lx.wordLen (bs.drop k)) := hnn
          have hsz : (⟨word.toArray⟩ : ByteArray).size ≤ maxLen := by unfold maxLen; simp [ByteArray.size]; omega
          have hst : ∃ p : Nat, k ≤ p ∧ p ≤ len ∧ ((p = k + 1 ∧ ((c : Int) == 45) = true) ∨ (p = k ∧ ((c : Int) == 45) = false)) ∧ k + n = p + Lx.runLen (bs.drop p) := by
            by_cases h45 : c = 45
            · refine ⟨k + 1, by omega, by omega, .inl ⟨rfl, by simp; omega⟩, ?_⟩
              rw [hnn, Lx.wordLen_min bs k HLT.out hs (by rw [← HCC.out]; exact h45)]; omega
            · refine ⟨k, by omega, by omega, .inr ⟨rfl, by simp; omega⟩, ?_⟩
              rw [hnn, Lx.wordLen_run bs k HLT.out hs (by rw [← HCC.out]; exact h45)]
          have htk : (∃ r, Lx.nameL word = true ∧ Lx.numL word = r ∧ R = Lx.scanGo f (bs.drop (k + n)) (k + n) (acc ++ [⟨1, word, 0, k⟩]) ∧ 0 < n) ∨
              (∃ m, Lx.nameL word = false ∧ Lx.numL word = some m ∧ R = Lx.scanGo f (bs.drop (k + n)) (k + n) (acc ++ [⟨2, [], m, k⟩]) ∧ 0 < n) ∨
              (Lx.nameL word = false ∧ Lx.numL word = none ∧ R = ([], k, 3)) := by
            cases h1 : Lx.nameL word with
            | true =>
              have ht : Lx.tokOf (Lx.wordOf (bs.drop k)) k = some ⟨1, word, 0, k⟩ := by rw [← HW.out]; simp [Lx.tokOf, h1]
              refine .inl ⟨_, rfl, rfl, ?_, by rw [hnn]; exact Lx.wordLen_pos _ k _ ht⟩
              rw [HK.out, Lx.scanGo_some bs k f acc _ HLT.out HBK.out ht, ← hnn]
            | false =>
              cases h2 : Lx.numL word with
              | some m =>
                have ht : Lx.tokOf (Lx.wordOf (bs.drop k)) k = some ⟨2, [], m, k⟩ := by rw [← HW.out]; simp [Lx.tokOf, h1, h2]
                refine .inr (.inl ⟨m, rfl, rfl, ?_, by rw [hnn]; exact Lx.wordLen_pos _ k _ ht⟩)
                rw [HK.out, Lx.scanGo_some bs k f acc _ HLT.out HBK.out ht, ← hnn]
              | none =>
                have ht : Lx.tokOf (Lx.wordOf (bs.drop k)) k = none := by
                  have := HSL.out
                  rw [← HW.out] at this ⊢
                  simp [Lx.tokOf, h1, h2, this]
                refine .inr (.inr ⟨rfl, rfl, ?_⟩)
                rw [HK.out, Lx.scanGo_none bs k f acc HLT.out HBK.out ht]
          have HTK := hideS htk
          obtain ⟨p, hp1, hp2, hp3, hp4⟩ := hst
          have HP : Hid (k + n = p + Lx.runLen (bs.drop p)) := hp4
          clear htk hp4 hs HK HW HNN hnn hword HSL
          rcases hp3 with ⟨hpk, h45⟩ | ⟨hpk, h45⟩
          all_goals
            have hpk' := hpk.symm
            clear hpk
            subst hpk'
            go_wp2_with (first | (go_at_call 22; refine (refBlank_any _ _).mono ?_; rintro e w' ⟨rfl, hw'⟩; have hw2 := hw'.symm; clear hw'; subst hw2) | (go_at_call 23; refine (refSign_any _ (by omega) (by omega) _).mono ?_; rintro e w' ⟨rfl, hw'⟩; have hw2 := hw'.symm; clear hw'; subst hw2))
            clear hbk' hs' h45 hck
            go_loop [7] (fun e => ∃ m : Nat, k ≤ m ∧ m ≤ len ∧ e = .int .i64 m ∧ Hid (k + n = m + Lx.runLen (bs.drop m))) (fun e => len - (intOf e).toNat)
            case atStart => exact ⟨_, hp1, hp2, by first | rfl | go_num, HP⟩
            case round =>
              obtain ⟨m, hm1, hm2, rfl, HQ⟩ := hrel
              clear HP
              have hcs : (m < len ∧ ∃ d : Nat, wr.cell? ⟨b, off + m, none⟩ = some (.int .u8 (d : Int)) ∧ ((Lx.ltrI (d : Int) = true ∧ Hid (k + n = m + 1 + Lx.runLen (bs.drop (m + 1)))) ∨ (Lx.ltrI (d : Int) = false ∧ Lx.digI (d : Int) = true ∧ Hid (k + n = m + 1 + Lx.runLen (bs.drop (m + 1)))))) ∨
                  (m = k + n ∧ ((m < len ∧ ∃ d : Nat, wr.cell? ⟨b, off + m, none⟩ = some (.int .u8 (d : Int)) ∧ Lx.ltrI (d : Int) = false ∧ Lx.digI (d : Int) = false) ∨ ¬ m < len)) := by
                by_cases hl2 : m < len
                · have hl3 : m < bs.length := by rw [← HL.out]; exact hl2
                  have hcm := hcw.out m hl3
                  have hil := Lx.inw_let (bs.getD m 0)
                  have hq := HQ.out
                  cases h1 : Lx.ltr (bs.getD m 0) with
                  | true =>
                    rw [h1, Bool.true_or] at hil
                    rw [Lx.runLen_in bs m hl3 hil] at hq
                    exact .inl ⟨hl2, _, hcm, .inl ⟨h1, by show _ = _; omega⟩⟩
                  | false =>
                    cases h2 : Lx.dig (bs.getD m 0) with
                    | true =>
                      rw [h1, h2, Bool.false_or] at hil
                      rw [Lx.runLen_in bs m hl3 hil] at hq
                      exact .inl ⟨hl2, _, hcm, .inr ⟨h1, h2, by show _ = _; omega⟩⟩
                    | false =>
                      rw [h1, h2, Bool.false_or] at hil
                      rw [Lx.runLen_out bs m hl3 hil] at hq
                      exact .inr ⟨by omega, .inl ⟨hl2, _, hcm, h1, h2⟩⟩
                · have hq := HQ.out
                  rw [Lx.runLen_end bs m (by rw [← HL.out]; exact hl2)] at hq
                  exact .inr ⟨by omega, .inr hl2⟩
              clear HQ
              rcases hcs with ⟨hl2, d, hcm, hcs⟩ | ⟨rfl, hcs⟩
              · rcases hcs with ⟨h1, HN⟩ | ⟨h1, h2, HN⟩
                all_goals
                  clear hcv
                  go_wp2_with (first | (go_at_call 24; refine (refLetter_any _ _).mono ?_; rintro e w' ⟨rfl, hw'⟩; have hw2 := hw'.symm; clear hw'; subst hw2) | (go_at_call 25; refine (refDigit_any _ _).mono ?_; rintro e w' ⟨rfl, hw'⟩; have hw2 := hw'.symm; clear hw'; subst hw2))
                  go_round
                  case rel => exact ⟨m + 1, by omega, by omega, by go_num, HN⟩
                  case measure => simp [intOf]; omega
              · rcases hcs with ⟨hl2, d, hcm, h1, h2⟩ | hl2
                all_goals
                  go_wp2_with (first | (go_at_call 24; refine (refLetter_any _ _).mono ?_; rintro e w' ⟨rfl, hw'⟩; have hw2 := hw'.symm; clear hw'; subst hw2) | (go_at_call 25; refine (refDigit_any _ _).mono ?_; rintro e w' ⟨rfl, hw'⟩; have hw2 := hw'.symm; clear hw'; subst hw2))
                  rcases HTK.out with ⟨r, ht1, ht2, ht3, hn0⟩ | ⟨q, ht1, ht2, ht3, hn0⟩ | ⟨ht1, ht2, ht3⟩
                  · have HB := hideS ht3
                    clear ht3 HTK
                    refine (refNum_is ⟨word.toArray⟩ r ht2 hsz _).mono ?_
                    rintro e w' ⟨rfl, hw'⟩; have hw2 := hw'.symm; clear hw'; subst hw2
                    go_wp2_with fail
                    refine (refName_is ⟨word.toArray⟩ true ht1 hsz _).mono ?_
                    rintro e w' ⟨rfl, hw'⟩; have hw2 := hw'.symm; clear hw'; subst hw2
                    go_wp2_with (at_builtin; refine wpList_append_own _ rfl (.tmp 85) (.tmp 89) 23 rfl w.heap.size 25 i0 (.agg #[.int .i64 0, .string ⟨#[]⟩, .int .i64 0, .int .i64 0]) 4 40 Tryd.underlying23 hi hz0 hz1 hz2 rfl (by decide) _ _ _ rfl (hown.alloc _) ⟨wr.heap.size, 0, none⟩ 1 1 [.int .i64 1, .string ⟨word.toArray⟩, .int .i64 0, .int .i64 (k : Int)] rfl rfl ?c1 ?c2 ?c3 ?c4 ?c5 ?_)
                    case c1 =>
                      intro j u hj
                      match j, hj with
                      | 0, hj => simp at hj; subst hj; simp [Addr.add]
                      | 1, hj => simp at hj; subst hj; simp [Addr.add]
                      | 2, hj => simp at hj; subst hj; simp [Addr.add]
                      | 3, hj => simp at hj; subst hj; simp [Addr.add]
                    case c2 => intro u hu; simp at hu; rcases hu with rfl | rfl | rfl | rfl <;> rfl
                    case c3 => unfold maxLen; omega
                    case c4 => omega
                    case c5 => simp; omega
                    · intro v' w2 hown2 hgrow2 _
                      have hR := rscan_step (t := ⟨1, word, 0, k⟩) rfl hown hbel hown2 hgrow2
                      clear hown2 hgrow2 hown hbel hcv
                      go_wp2
                      go_roundw
                      case rel => exact ⟨k + n, f, acc ++ [⟨1, word, 0, k⟩], by omega, by go_num, hR.1, hR.2, by simp; omega, by omega, HB⟩
                      case measure => simp [intOf]; omega
                  · have HB := hideS ht3
                    clear ht3 HTK
                    refine (refNum_is ⟨word.toArray⟩ (some q) ht2 hsz _).mono ?_
                    rintro e w' ⟨rfl, hw'⟩; have hw2 := hw'.symm; clear hw'; subst hw2
                    go_wp2_with fail
                    refine (refName_is ⟨word.toArray⟩ false ht1 hsz _).mono ?_
                    rintro e w' ⟨rfl, hw'⟩; have hw2 := hw'.symm; clear hw'; subst hw2
                    go_wp2_with (at_builtin; refine wpList_append_own _ rfl (.tmp 93) (.tmp 97) 23 rfl w.heap.size 25 i0 (.agg #[.int .i64 0, .string ⟨#[]⟩, .int .i64 0, .int .i64 0]) 4 40 Tryd.underlying23 hi hz0 hz1 hz2 rfl (by decide) _ _ _ rfl (hown.alloc _) ⟨wr.heap.size, 0, none⟩ 1 1 [.int .i64 2, .string ⟨#[]⟩, .int .i64 q, .int .i64 (k : Int)] rfl rfl ?c1 ?c2 ?c3 ?c4 ?c5 ?_)
                    case c1 =>
                      intro j u hj
                      match j, hj with
                      | 0, hj => simp at hj; subst hj; simp [Addr.add]
                      | 1, hj => simp at hj; subst hj; simp [Addr.add]
                      | 2, hj => simp at hj; subst hj; simp [Addr.add]
                      | 3, hj => simp at hj; subst hj; simp [Addr.add]
                    case c2 => intro u hu; simp at hu; rcases hu with rfl | rfl | rfl | rfl <;> rfl
                    case c3 => unfold maxLen; omega
                    case c4 => omega
                    case c5 => simp; omega
                    · intro v' w2 hown2 hgrow2 _
                      have hR := rscan_step (t := ⟨2, [], q, k⟩) rfl hown hbel hown2 hgrow2
                      clear hown2 hgrow2 hown hbel hcv
                      go_wp2
                      go_roundw
                      case rel => exact ⟨k + n, f, acc ++ [⟨2, [], q, k⟩], by omega, by go_num, hR.1, hR.2, by simp; omega, by omega, HB⟩
                      case measure => simp [intOf]; omega
                  · have HB := hideS ht3
                    clear ht3 HTK
                    refine (refNum_is ⟨word.toArray⟩ none ht2 hsz _).mono ?_
                    rintro e w' ⟨rfl, hw'⟩; have hw2 := hw'.symm; clear hw'; subst hw2
                    go_wp2_with fail
                    refine (refName_is ⟨word.toArray⟩ false ht1 hsz _).mono ?_
                    rintro e w' ⟨rfl, hw'⟩; have hw2 := hw'.symm; clear hw'; subst hw2
                    go_wp2_with fail
                    go_ret3
                    rw [HB.out]
                    exact ⟨_, rfl, World.ownsRow_nil _ _ _ _, hbel⟩
    · have HB : Hid (R = (acc, 0, 0)) := by show _ = _; rw [HK.out, Lx.scanGo_end bs k f acc (by rw [← HL.out]; exact hlt)]
      clear HK
      go_wp2
      go_ret3
      rw [HB.out]
      exact ⟨_, rfl, hown, hbel⟩

set_option maxHeartbeats 1000000 in
theorem refScan_empty (a : Option Addr) (cap : Nat) (w : World) :
    Calls Tryd.prog 9 #[.slice a 0 cap] w fun e w' => e = .returned (.tuple #[.slice none 0 0, .int .i64 0, .int .i64 0]) ∧ w' = w := by
  go_enter Tryd.func9, Tryd.ntmps9
  go_wp2
  refine wp_loop_rounds 1 ?_
  rw [rounds_succ]
  go_wp2
  go_ret3
  exact ⟨rfl, rfl⟩

set_option maxHeartbeats 1000000 in
theorem refScan_long (a : Option Addr) (len cap : Nat) (h : 6000 < len) (hm : len ≤ maxLen) (w : World) :
    Calls Tryd.prog 9 #[.slice a len cap] w fun e w' => e = .returned (.tuple #[.slice none 0 0, .int .i64 0, .int .i64 2]) ∧ w' = w := by
  unfold maxLen at hm
  go_enter Tryd.func9, Tryd.ntmps9
  go_wp2
  go_ret3
  exact ⟨rfl, rfl⟩

end Go.Proofs.YtiglcjcellhggaaDoor

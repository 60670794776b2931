/- What the page's Word and Join answer of any token. -/
import Derived.Test.YtiglcjcellhggaaDoorRefWord
import Derived.Test.YtiglcjcellhggaaDoorAlls
namespace Go.Proofs.YtiglcjcellhggaaDoor
open Go.RowKit
set_option linter.unusedVariables false
set_option linter.unusedSimpArgs false

theorem Word_some (t : Lx.ATok) (l : List UInt8) (h : Lx.wordA t = some l) (hs : t.text.length ≤ maxLen) (w : World) :
    Calls Tryd.prog 27 #[.agg #[.int .i64 t.kind, .string ⟨t.text.toArray⟩, .int .i64 t.num, .int .i64 t.pos]] w fun e w' => e = .returned (.string ⟨l.toArray⟩) ∧ Below w.heap.size w w' := by
  obtain ⟨k, s, n, p⟩ := t
  unfold Lx.wordA at h
  simp only at h hs ⊢
  have hsz : (⟨s.toArray⟩ : ByteArray).size ≤ maxLen := by rw [str_size]; exact hs
  by_cases h1 : k = 1
  · rw [if_pos h1] at h
    split at h
    · rename_i hc
      injection h with h; subst h
      obtain ⟨hc1, hc2⟩ := hc
      subst h1 hc1
      exact Word_name ⟨s.toArray⟩ p hsz hc2 w
    · cases h
  · rw [if_neg h1] at h
    by_cases h2 : k = 2
    · rw [if_pos h2] at h
      split at h
      · rename_i hc
        injection h with h; subst h
        obtain ⟨hc1, hc2, hc3⟩ := hc
        subst h2 hc1
        exact Word_num n p hc2 hc3 w
      · cases h
    · rw [if_neg h2] at h
      by_cases h3 : k = 3
      · rw [if_pos h3] at h
        split at h
        · rename_i hc
          injection h with h; subst h
          obtain ⟨hc1, hc2⟩ := hc
          subst h3 hc1
          exact Word_sign ⟨s.toArray⟩ p hsz hc2 w
        · cases h
      · rw [if_neg h3] at h; cases h

set_option maxHeartbeats 2000000 in
theorem Word_none (t : Lx.ATok) (h : Lx.wordA t = none) (hs : t.text.length ≤ maxLen) (w : World) :
    Calls Tryd.prog 27 #[.agg #[.int .i64 t.kind, .string ⟨t.text.toArray⟩, .int .i64 t.num, .int .i64 t.pos]] w fun e w' => e = .returned (.string ⟨#[]⟩) ∧ Below w.heap.size w w' := by
  obtain ⟨k, s, n, p⟩ := t
  unfold Lx.wordA at h
  simp only at h hs ⊢
  have hsz : (⟨s.toArray⟩ : ByteArray).size ≤ maxLen := by rw [str_size]; exact hs
  by_cases h1 : k = 1
  · rw [if_pos h1] at h
    split at h
    · cases h
    · rename_i hc
      subst h1
      clear h
      cases hnm : Lx.nameL (⟨s.toArray⟩ : ByteArray).data.toList with
      | false =>
        clear hc
        go_enter Tryd.func27, Tryd.ntmps27
        go_wp2_with (go_at_call 15; refine (refName_is _ _ hnm hsz _).mono ?_; rintro e w' ⟨rfl, rfl⟩)
        go_ret
        exact ⟨rfl, (Below.refl _ _).alloc (Nat.le_refl _) _⟩
      | true =>
        have hn' : (n == 0) = false := by
          simp only [beq_eq_false_iff_ne]; exact fun x => hc ⟨x, hnm⟩
        clear hc
        go_enter Tryd.func27, Tryd.ntmps27
        go_wp2_with (go_at_call 15; refine (refName_is _ _ hnm hsz _).mono ?_; rintro e w' ⟨rfl, rfl⟩)
        go_ret
        exact ⟨rfl, (Below.refl _ _).alloc (Nat.le_refl _) _⟩
  · rw [if_neg h1] at h
    have h1' : (k == 1) = false := by simpa using h1
    by_cases h2 : k = 2
    · rw [if_pos h2] at h
      split at h
      · cases h
      · rename_i hc
        subst h2
        clear h h1 h1'
        by_cases hx : s = []
        · subst hx
          have hr : n < -2147483648 ∨ (-2147483648 ≤ n ∧ 2147483647 < n) := by
            by_cases a : -2147483648 ≤ n
            · by_cases b : n ≤ 2147483647
              · exact absurd ⟨rfl, a, b⟩ hc
              · exact .inr ⟨a, by omega⟩
            · exact .inl (by omega)
          clear hc
          rcases hr with hr | ⟨hr1, hr⟩
          all_goals
            go_enter Tryd.func27, Tryd.ntmps27
            go_wp2_with fail
            go_ret
            exact ⟨rfl, (Below.refl _ _).alloc (Nat.le_refl _) _⟩
        · have hem := isEmpty_list s hx
          clear hc hx hs
          generalize (⟨s.toArray⟩ : ByteArray) = S at *
          go_enter Tryd.func27, Tryd.ntmps27
          go_wp2_with fail
          go_ret
          exact ⟨rfl, (Below.refl _ _).alloc (Nat.le_refl _) _⟩
    · rw [if_neg h2] at h
      have h2' : (k == 2) = false := by simpa using h2
      by_cases h3 : k = 3
      · rw [if_pos h3] at h
        split at h
        · cases h
        · rename_i hc
          subst h3
          clear h h1 h1' h2 h2'
          have hd : (⟨s.toArray⟩ : ByteArray).data.toList = s := rfl
          rw [← hd] at hc
          clear hd hs
          generalize (⟨s.toArray⟩ : ByteArray) = S at *
          unfold maxLen at hsz
          by_cases hl : S.size = 1
          · have hl0 : 0 < S.size := by omega
            have hlb : ((S.size : Int) == 1) = true := by simp; omega
            have hu := S[0].toNat_lt
            rw [Lx.signL_one S hl hl0] at hc
            cases hsg : Lx.sgnI ((S[0]'hl0).toNat : Int) with
            | false =>
              clear hc hl
              go_enter Tryd.func27, Tryd.ntmps27
              go_wp2_with (go_at_call 23; refine (refSign_any _ (by omega) (by omega) _).mono ?_; rintro e w' ⟨rfl, rfl⟩)
              go_ret
              exact ⟨rfl, (Below.refl _ _).alloc (Nat.le_refl _) _⟩
            | true =>
              have hn' : (n == 0) = false := by
                simp only [beq_eq_false_iff_ne]; exact fun x => hc ⟨x, hsg⟩
              clear hc hl
              go_enter Tryd.func27, Tryd.ntmps27
              go_wp2_with (go_at_call 23; refine (refSign_any _ (by omega) (by omega) _).mono ?_; rintro e w' ⟨rfl, rfl⟩)
              go_ret
              exact ⟨rfl, (Below.refl _ _).alloc (Nat.le_refl _) _⟩
          · have hlb : ((S.size : Int) == 1) = false := by simp; omega
            clear hc hl
            go_enter Tryd.func27, Tryd.ntmps27
            go_wp2_with fail
            go_ret
            exact ⟨rfl, (Below.refl _ _).alloc (Nat.le_refl _) _⟩
      · have h3' : (k == 3) = false := by simpa using h3
        clear h h1 h2 h3
        go_enter Tryd.func27, Tryd.ntmps27
        go_wp2_with fail
        go_ret
        exact ⟨rfl, (Below.refl _ _).alloc (Nat.le_refl _) _⟩

theorem rjoin_step2 {w wr w2 w3 : World} {B : Nat} {v v' : Value} {acc : List UInt8} {o2 : Obj} (hB : B ≤ w.heap.size) (hown : wr.ownsRow B 5 1 v acc.length (acc.map byteV)) (hbel : Below B w wr) (hb2 : Below wr.heap.size wr w2)
    (hown3 : w3.ownsRow B 5 1 v' (acc.length + 1) (acc.map byteV ++ [.int .u8 32])) (hg : (w2.alloc o2).grownBy w3 v.ownBlock) :
    w3.ownsRow B 5 1 v' (acc ++ [32]).length ((acc ++ [32]).map byteV) ∧ Below B w w3 := by
  have h0 := hbel.size
  have h1 := hb2.size
  have hl := hown.lt
  refine ⟨?_, ?_⟩
  · rw [List.length_append, List.map_append]
    exact hown3
  · exact Below.grown ((hbel.trans (hb2.mono (by omega))).alloc (by omega) o2) hg (by simp; omega) (fun k hk => (hl k hk).1)

set_option maxHeartbeats 1000000 in
theorem refJoin_empty (a : Option Addr) (cap : Nat) (w : World) :
    Calls Tryd.prog 11 #[.slice a 0 cap] w fun e w' => e = .returned (.tuple #[.slice none 0 0, .int .i64 0]) ∧ w' = w := by
  go_enter Tryd.func11, Tryd.ntmps11
  go_wp2
  refine wp_loop_rounds 1 ?_
  rw [rounds_succ]
  go_wp2
  go_ret2
  exact ⟨rfl, rfl⟩

set_option maxHeartbeats 4000000 in
theorem refJoin_any (ts : List Lx.ATok) (b off cap : Nat) (w : World) (hn : ts.length ≤ 1000) (hcap : ts.length ≤ cap) (hb : b < w.heap.size)
    (hc : ToksAt w b off ts) (htx : ∀ t ∈ ts, t.text.length ≤ maxLen) :
    Calls Tryd.prog 11 #[.slice (some ⟨b, off, none⟩) ts.length cap] w fun e w' => ∃ v, e = .returned (.tuple #[v, .int .i64 (errOf (Lx.joinL ts))]) ∧
      w'.ownsRow w.heap.size 5 1 v ((Lx.joinL ts).getD []).length (((Lx.joinL ts).getD []).map byteV) ∧ Below w.heap.size w w' := by
  obtain ⟨R, hR⟩ : ∃ R, R = Lx.joinL ts := ⟨_, rfl⟩
  rw [← hR]
  have HR : Hid (R = Lx.joinGo (ts.drop 0) (decide (0 = 0)) []) := hR
  clear hR
  obtain ⟨len, hlen⟩ : ∃ len, len = ts.length := ⟨_, rfl⟩
  have HL : Hid (len = ts.length) := hlen
  rw [← hlen] at hn hcap ⊢
  clear hlen
  have HC : Hid (ToksAt w b off ts) := hc
  have HX : Hid (∀ t ∈ ts, t.text.length ≤ maxLen) := htx
  clear hc htx
  obtain ⟨i0, hi, hz0, hz1, hz2⟩ := info_parts Tryd.info5
  obtain ⟨x, hx⟩ : ∃ x : Int, x = errOf R := ⟨_, rfl⟩
  rw [← hx]
  have HE : Hid (x = errOf R) := hx
  clear hx
  go_enter Tryd.func11, Tryd.ntmps11
  go_wp2
  go_loopw [4, 5] (fun v i wr => ∃ (k : Nat) (acc : List UInt8), k ≤ len ∧ i = .int .i64 k ∧ wr.ownsRow w.heap.size 5 1 v acc.length (acc.map byteV) ∧ Below w.heap.size w wr ∧ acc.length ≤ 22 * k ∧ Hid (R = Lx.joinGo (ts.drop k) (decide (k = 0)) acc))
    (fun _ i _ => len - (intOf i).toNat)
  case atStart => exact ⟨0, [], Nat.zero_le _, rfl, World.ownsRow_nil _ _ _ _, Below.refl _ _, Nat.le_refl _, HR⟩
  case round =>
    obtain ⟨k, acc, hk, rfl, hown, hbel, hacc, HK⟩ := hrel
    clear HR
    by_cases hlt : k < len
    · obtain ⟨t, ht⟩ : ∃ t, ts[k]? = some t := ⟨ts[k]'(by rw [← HL.out]; exact hlt), List.getElem?_eq_getElem _⟩
      have hdr : ts.drop k = t :: ts.drop (k + 1) := by
        have hlt' : k < ts.length := by rw [← HL.out]; exact hlt
        rw [List.drop_eq_getElem_cons hlt']; congr 1
        rw [List.getElem?_eq_getElem hlt'] at ht; simpa using ht
      obtain ⟨hc0, hc1, hc2, hc3⟩ := HC.out.on hbel hb k t ht
      have htx := HX.out t (List.mem_of_getElem? ht)
      clear ht
      cases hw : Lx.wordA t with
      | none =>
        have HB : Hid (R = none) := by show _ = _; rw [HK.out, hdr, Lx.joinGo, hw]
        have HW : Hid (Lx.wordA t = none) := hw
        clear HK hdr hw
        go_wp2_with fail
        refine (Word_none t HW.out htx _).mono ?_
        rintro e w1 ⟨rfl, hb1⟩
        go_wp2_with fail
        go_ret2
        have hs0 := hbel.size
        refine ⟨_, by rw [HE.out, HB.out]; rfl, ?_, hbel.trans (hb1.mono (by omega))⟩
        rw [HB.out]
        exact World.ownsRow_nil _ _ _ _
      | some l =>
        have hll := Lx.wordA_len t l hw
        have HW : Hid (Lx.wordA t = some l) := hw
        have hne := isEmpty_list l (fun e => by rw [e] at hll; simp at hll)
        have HSL : Hid ((⟨l.toArray⟩ : ByteArray).size = l.length) := str_size l
        by_cases hk0 : k = 0
        · have HB : Hid (R = Lx.joinGo (ts.drop (k + 1)) (decide (k + 1 = 0)) (acc ++ l)) := by show _ = _; rw [HK.out, hdr, Lx.joinGo, hw]; simp [hk0]
          have hkp : ¬ (0 : Int) < (k : Int) := by omega
          clear HK hdr hw hk0
          go_wp2_with fail
          refine (Word_some t l HW.out htx _).mono ?_
          rintro e w1 ⟨rfl, hb1⟩
          have hown1 := own_below hown hb1
          have hs0 := hbel.size
          have hs1 := hb1.size
          have hbel1 := hbel.trans (hb1.mono hs0)
          obtain ⟨S, hS⟩ : ∃ S : ByteArray, S = ⟨l.toArray⟩ := ⟨_, rfl⟩
          have HS : Hid (S = ⟨l.toArray⟩) := hS
          rw [← hS] at hne ⊢
          clear hS
          go_wp2_with (at_builtin; refine Lib.wpList_append_own_string _ rfl (.tmp 25) (.tmp 26) 22 9 rfl w.heap.size 5 i0 Tryd.underlying22 Tryd.underlying9 hi hz0 hz1 hz2 _ _ _ rfl hown1 S rfl ?c1 ?c2 ?c3 ?_)
          case c1 => have := HSL.out; rw [← HS.out] at this; unfold maxLen; omega
          case c2 => have := HSL.out; rw [← HS.out] at this; omega
          case c3 => omega
          · intro v' w2 hown2 hgrow2 _
            rw [HS.out] at hown2
            have hR := join_step3 (Nat.le_refl _) hown1 hbel1 hown2 hgrow2
            clear hown2 hgrow2 hown hown1 hbel hb1 hbel1
            go_wp2
            go_roundw
            case rel => exact ⟨k + 1, acc ++ l, by omega, by go_num, hR.1, hR.2, by simp; omega, HB⟩
            case measure => simp [intOf]; omega
        · have HB : Hid (R = Lx.joinGo (ts.drop (k + 1)) (decide (k + 1 = 0)) (acc ++ [32] ++ l)) := by show _ = _; rw [HK.out, hdr, Lx.joinGo, hw]; simp [hk0]
          have hkp : (0 : Int) < (k : Int) := by omega
          clear HK hdr hw hk0
          go_wp2_with fail
          refine (Word_some t l HW.out htx _).mono ?_
          rintro e w1 ⟨rfl, hb1⟩
          have hown1 := own_below hown hb1
          have hs0 := hbel.size
          have hs1 := hb1.size
          obtain ⟨S, hS⟩ : ∃ S : ByteArray, S = ⟨l.toArray⟩ := ⟨_, rfl⟩
          have HS : Hid (S = ⟨l.toArray⟩) := hS
          rw [← hS] at hne ⊢
          clear hS
          go_wp2_with (at_builtin; refine wpList_append_own _ rfl (.tmp 22) (.tmp 23) 22 rfl w.heap.size 5 i0 (.int .u8 0) 1 1 Tryd.underlying22 hi hz0 hz1 hz2 rfl (by decide) _ _ _ rfl (hown1.alloc _) ⟨w1.heap.size, 0, none⟩ 1 1 [.int .u8 32] rfl rfl ?d1 ?d2 ?d3 ?d4 ?d5 ?_)
          case d1 =>
            intro j u hj
            match j, hj with
            | 0, hj => simp at hj; subst hj; simp [Addr.add]
          case d2 => intro u hu; simp at hu; subst hu; rfl
          case d3 => unfold maxLen; omega
          case d4 => omega
          case d5 => simp; omega
          · intro v' w2 hown2 hgrow2 _
            have hR := rjoin_step2 (Nat.le_refl _) hown hbel hb1 hown2 hgrow2
            clear hown2 hgrow2 hown hown1 hbel hb1
            have hle : (acc ++ [32]).length ≤ 22 * k + 1 := by simp; omega
            generalize acc ++ [32] = acc2 at *
            have hs2 := hR.2.size
            have hownB := hR.1
            go_wp2_with (at_builtin; refine Lib.wpList_append_own_string _ rfl (.tmp 25) (.tmp 26) 22 9 rfl w.heap.size 5 i0 Tryd.underlying22 Tryd.underlying9 hi hz0 hz1 hz2 _ _ _ rfl hownB S rfl ?e1 ?e2 ?e3 ?_)
            case e1 => have := HSL.out; rw [← HS.out] at this; unfold maxLen; omega
            case e2 => have := HSL.out; rw [← HS.out] at this; omega
            case e3 => omega
            · intro v'' w3 hown3 hgrow3 _
              rw [HS.out] at hown3
              have hR2 := join_step3 (Nat.le_refl _) hR.1 hR.2 hown3 hgrow3
              clear hown3 hgrow3 hR hownB
              go_wp2
              go_roundw
              case rel => exact ⟨k + 1, acc2 ++ l, by omega, by go_num, hR2.1, hR2.2, by simp; omega, HB⟩
              case measure => simp [intOf]; omega
    · have HB : Hid (R = some acc) := by show _ = _; rw [HK.out, List.drop_eq_nil_of_le (by rw [← HL.out]; omega)]; rfl
      clear HK
      go_wp2
      go_ret2
      refine ⟨_, by rw [HE.out, HB.out]; rfl, ?_, hbel⟩
      rw [HB.out]; exact hown

theorem refJoin_all (ts : List Lx.ATok) (a : Option Addr) (n c : Nat) (w : World) (hn : n ≤ 1000) (hx : IsToks w a n c ts) :
    Calls Tryd.prog 11 #[.slice a n c] w fun e w' => ∃ v, e = .returned (.tuple #[v, .int .i64 (errOf (Lx.joinL ts))]) ∧
      w'.ownsRow w.heap.size 5 1 v ((Lx.joinL ts).getD []).length (((Lx.joinL ts).getD []).map byteV) ∧ Below w.heap.size w w' := by
  obtain ⟨rfl, hc1, hm1, hl1, hx⟩ := hx
  rcases hx with h0 | ⟨b1, o1, rfl, hb1, hx⟩
  · have : ts = [] := List.eq_nil_of_length_eq_zero h0
    subst this
    refine (refJoin_empty a c w).mono ?_
    rintro e w' ⟨rfl, rfl⟩
    exact ⟨_, rfl, World.ownsRow_nil _ _ _ _, Below.refl _ _⟩
  · exact refJoin_any ts b1 o1 c w hn hc1 hb1 hx hl1

end Go.Proofs.YtiglcjcellhggaaDoor

/- What lex.Name, parse.Kept, parse.Word and show's small functions answer. -/
import Derived.Test.YtdgfidaopkcjoaaDoorRows
import Derived.Test.YtdgfidaopkcjoaaDoorMgA
import Derived.WalkKit
import Derived.WalkSpells
import Derived.WalkLawsBesides
import Derived.BigQuiet
import Derived.Deep.QuietTactic
namespace Go.Proofs.YtdgfidaopkcjoaaDoor
open Go.RowKit
set_option linter.unusedVariables false
set_option linter.unusedSimpArgs false

theorem ret_bool {a b : Bool} (h : a = true ↔ b = true) : Ending.returned (.bool a) = .returned (.bool b) := by rw [Bool.eq_iff_iff.2 h]

set_option maxRecDepth 100000 in
set_option maxHeartbeats 400000 in
theorem isDigit_any (c : Int) (w : World) :
    Calls Tryd.prog 69 #[.int .u8 c] w fun e w' => e = .returned (.bool (Lx.digI c)) ∧ w' = w := by
  go_enter Tryd.func69, Tryd.ntmps69
  go_wp2
  all_goals (go_ret; exact ⟨ret_bool (by simp [Lx.digI]; omega), rfl⟩)

set_option maxRecDepth 100000 in
set_option maxHeartbeats 400000 in
theorem inWord_any (c : Int) (w : World) :
    Calls Tryd.prog 70 #[.int .u8 c] w fun e w' => e = .returned (.bool (Lx.inwI c)) ∧ w' = w := by
  go_enter Tryd.func70, Tryd.ntmps70
  go_wp2
  all_goals (go_ret; exact ⟨ret_bool (by simp [Lx.inwI]; try omega), rfl⟩)

set_option maxRecDepth 100000 in
set_option maxHeartbeats 400000 in
theorem Name_any (s : ByteArray) (hs : s.size ≤ maxLen) (w : World) :
    Calls Tryd.prog 59 #[.string s] w fun e w' => e = .returned (.bool (Lx.nameL s.data.toList)) ∧ w' = w := by
  unfold maxLen at hs
  by_cases h1 : s.size < 1
  · have Hf := Lx.nameL_short s h1
    rw [Hf]; clear Hf
    go_enter Tryd.func59, Tryd.ntmps59
    go_wp2
    go_ret
    exact ⟨rfl, rfl⟩
  by_cases h20 : 20 < s.size
  · have Hf := Lx.nameL_long s h20
    rw [Hf]; clear Hf
    go_enter Tryd.func59, Tryd.ntmps59
    go_wp2
    go_ret
    exact ⟨rfl, rfl⟩
  have Hf := Lx.nameL_mid s (by omega) (by omega)
  rw [Hf]; clear Hf
  have h1' : 0 < s.size := by omega
  obtain ⟨R, hR⟩ : ∃ R : Bool, R = (!Lx.dig s[0] && s.data.toList.all Lx.inw) := ⟨_, rfl⟩
  rw [← hR]
  have HR : Hid (R = (!Lx.dig s[0] && s.data.toList.all Lx.inw)) := hR
  clear hR
  cases hd : Lx.dig s[0] with
  | true =>
    have hd' : Lx.digI (s[0].toNat : Int) = true := hd
    have HF : Hid (R = false) := by show _ = _; rw [HR.out, hd]; rfl
    clear hd
    go_enter Tryd.func59, Tryd.ntmps59
    go_wp2_with (go_at_call 69; refine (isDigit_any _ _).mono ?_; rintro e w' ⟨rfl, rfl⟩)
    go_ret
    exact ⟨ret_bool (by rw [HF.out]), rfl⟩
  | false =>
    have hd' : Lx.digI (s[0].toNat : Int) = false := hd
    have HF : Hid (R = s.data.toList.all Lx.inw) := by show _ = _; rw [HR.out, hd]; rfl
    clear hd
    go_enter Tryd.func59, Tryd.ntmps59
    go_wp2_with (go_at_call 69; refine (isDigit_any _ _).mono ?_; rintro e w' ⟨rfl, rfl⟩)
    go_loop [19] (fun i => ∃ k : Nat, k ≤ s.size ∧ i = .int .i64 k ∧ (s.data.toList.take k).all Lx.inw = true) (fun i => s.size - (intOf i).toNat)
    case atStart => exact ⟨0, Nat.zero_le _, rfl, rfl⟩
    case round =>
      obtain ⟨k, hk, rfl, hall⟩ := hrel
      have Hall := hall; clear hall
      by_cases hlt : k < s.size
      · have hts := Lx.take_snoc s k hlt
        have HT : Hid ((s.data.toList.take (k + 1)).all Lx.inw = ((s.data.toList.take k).all Lx.inw && Lx.inw s[k])) := by rw [hts]; exact Lx.all_snoc _ _ _
        clear hts
        have HA : Hid ((s.data.toList.take k).all Lx.inw = true) := Hall
        clear Hall
        cases hw : Lx.inw s[k] with
        | true =>
          have hw' : Lx.inwI (s[k].toNat : Int) = true := hw
          have HW : Hid (Lx.inw s[k] = true) := hw
          clear hw
          go_wp2_with (go_at_call 70; refine (inWord_any _ _).mono ?_; rintro e w' ⟨rfl, rfl⟩)
          go_round
          case rel => exact ⟨k + 1, by omega, by go_num, by rw [HT.out, HA.out, HW.out]; rfl⟩
          case measure => simp [intOf]; omega
        | false =>
          have hw' : Lx.inwI (s[k].toNat : Int) = false := hw
          have HN : Hid (s.data.toList.all Lx.inw = false) := by
            show _ = _
            rw [Bool.eq_false_iff]; intro h
            have := List.all_eq_true.1 h s[k] (by simp [ByteArray.getElem_eq_getElem_data])
            rw [hw] at this; cases this
          clear hw
          go_wp2_with (go_at_call 70; refine (inWord_any _ _).mono ?_; rintro e w' ⟨rfl, rfl⟩)
          go_ret
          exact ⟨ret_bool (by rw [HF.out, HN.out]), rfl⟩
      · have HN : Hid (s.data.toList.all Lx.inw = true) := by
          show _ = _
          rw [← Hall, List.take_of_length_le (by simp; omega)]
        clear Hall
        go_wp2
        go_ret
        exact ⟨ret_bool (by rw [HF.out, HN.out]), rfl⟩

theorem Name_is (s : ByteArray) (r : Bool) (h : Lx.nameL s.data.toList = r) (hs : s.size ≤ maxLen) (w : World) :
    Calls Tryd.prog 59 #[.string s] w fun e w' => e = .returned (.bool r) ∧ w' = w := by
  have := Name_any s hs w
  rw [h] at this
  exact this

def strV (l : List UInt8) : Value := .string ⟨l.toArray⟩
/-- The two tables of words. -/
structure TabS (w : World) : Prop where
  words : ∀ i t, Pp.opWords[i]? = some t → w.cell? ⟨2, i, none⟩ = some (strV t)
  kept : ∀ i t, Pp.keptWords[i]? = some t → w.cell? ⟨0, i, none⟩ = some (strV t)
theorem TabS.below {w w' : World} (h : TabS w) (hb : Below w.heap.size w w') : TabS w' :=
  ⟨fun i t ht => (hb.cell (World.block_lt_of_cell? w _ (h.words i t ht))).trans (h.words i t ht), fun i t ht => (hb.cell (World.block_lt_of_cell? w _ (h.kept i t ht))).trans (h.kept i t ht)⟩
theorem hide {p : Prop} (h : p) : Hid p := h
namespace Pp
theorem any_step (K : List Bs) (s t : Bs) (k : Nat) (hk : k < K.length) (ht : t = K.getD k []) (hs : ¬ t = s) (h : (K.take k).any (· == s) = false) : (K.take (k + 1)).any (· == s) = false := by
  have e : K[k] = t := by rw [ht]; simp [List.getD, hk]
  rw [List.take_succ_eq_append_getElem hk, List.any_append, h, e]
  simp [hs]
theorem any_at (K : List Bs) (s t : Bs) (k : Nat) (hk : k < K.length) (ht : t = K.getD k []) (hs : t = s) : K.any (· == s) = true := by
  rw [List.any_eq_true]
  exact ⟨K[k], List.getElem_mem hk, by rw [← hs, ht]; simp [List.getD, hk]⟩
theorem any_end (K : List Bs) (s : Bs) (k : Nat) (hk : ¬ k < K.length) (h : (K.take k).any (· == s) = false) : K.any (· == s) = false := by
  rw [List.take_of_length_le (by omega)] at h; exact h
theorem find_at (K : List Bs) (s t : Bs) (k : Nat) (hk : k < K.length) (ht : t = K.getD k []) (hs : t = s) (h : (K.take k).any (· == s) = false) : K.findIdx? (· == s) = some k := by
  have e : K[k] = s := by rw [← hs, ht]; simp [List.getD, hk]
  rw [List.findIdx?_eq_some_iff_getElem]
  refine ⟨hk, by simp [e], fun j hj => ?_⟩
  rw [← Bool.not_eq_true, List.any_eq_true] at h
  intro hc
  exact h ⟨K[j], by rw [List.mem_take_iff_getElem]; exact ⟨j, by omega, rfl⟩, hc⟩
theorem find_end (K : List Bs) (s : Bs) (k : Nat) (hk : ¬ k < K.length) (h : (K.take k).any (· == s) = false) : K.findIdx? (· == s) = none := by
  rw [List.take_of_length_le (by omega)] at h
  rw [List.findIdx?_eq_none_iff]
  intro x hx
  rw [List.any_eq_false] at h
  exact by simpa using h x hx
end Pp

theorem index_str (w : World) (A : Array Value) (t : TypeId) (n k : Nat) (l : List UInt8) (ht : Tryd.prog.underlying t = some (.array n 9)) (hk : k < n) (hA : A[k]? = some (.string ⟨l.toArray⟩)) :
    (Instr.index t (.agg A) (.int .i64 (k : Int))).run Tryd.prog w = .ok (.string ⟨l.toArray⟩) w := by
  have h1 : (0 : Int) ≤ (k : Int) ∧ (k : Int) < (n : Int) := by omega
  simp [Instr.index, run_underlying ht, asIntOf, h1, go_sem]
  rw [if_pos hk, hA]
  rfl

set_option maxRecDepth 100000 in
set_option maxHeartbeats 1000000 in
theorem Kept_any (s : List UInt8) (w : World) (ht : TabS w) :
    Calls Tryd.prog 60 #[.string ⟨s.toArray⟩] w fun e w' => e = .returned (.bool (Pp.keptL s)) ∧ w' = w := by
  have h0 := ht.kept 0 _ rfl
  have h1 := ht.kept 1 _ rfl
  have h2 := ht.kept 2 _ rfl
  have h3 := ht.kept 3 _ rfl
  have h4 := ht.kept 4 _ rfl
  have h5 := ht.kept 5 _ rfl
  have h6 := ht.kept 6 _ rfl
  have h7 := ht.kept 7 _ rfl
  have h8 := ht.kept 8 _ rfl
  have h9 := ht.kept 9 _ rfl
  have h10 := ht.kept 10 _ rfl
  have h11 := ht.kept 11 _ rfl
  clear ht
  unfold strV at *
  go_enter Tryd.func60, Tryd.ntmps60
  go_wp2
  clear h0 h1 h2 h3 h4 h5 h6 h7 h8 h9 h10 h11
  obtain ⟨K, hK⟩ : ∃ K, K = Pp.keptWords := ⟨_, rfl⟩
  have hL : Hid (K.length = 12) := by rw [hK]; exact hide rfl
  have hg : Hid (Pp.keptL s = K.any (· == s)) := by rw [hK]; rfl
  generalize hA : (#[_, _, _, _, _, _, _, _, _, _, _, _] : Array Value) = A
  have hAK : A = (K.map fun t => Value.string ⟨t.toArray⟩).toArray := by rw [← hA, hK]; rfl
  clear hA hK
  have hAt : ∀ k, k < 12 → A[k]? = some (.string ⟨(K.getD k []).toArray⟩) := by
    intro k hk; rw [hAK]; simp [List.getD, show k < K.length by have := hL.out; omega]
  clear hAK
  go_loop [6] (fun i => ∃ k : Nat, k ≤ 12 ∧ i = .int .i64 k ∧ Hid ((K.take k).any (· == s) = false)) (fun i => 12 - (intOf i).toNat)
  case atStart => exact ⟨0, by omega, rfl, rfl⟩
  case round =>
    obtain ⟨k, hk, rfl, hp⟩ := hrel
    by_cases hlt : k < 12
    · have hix := index_str w A 106 12 k _ Tryd.underlying106 hlt (hAt k hlt)
      clear hAt
      obtain ⟨t, htt⟩ : ∃ t, t = K.getD k [] := ⟨_, rfl⟩
      rw [← htt] at hix
      have HT := hide htt
      clear htt
      by_cases hts : t = s
      · have hr := hide (hg.out.trans (Pp.any_at K s t k (by rw [hL.out]; exact hlt) HT.out hts))
        subst hts
        go_wp2
        go_ret
        rw [hr.out]
        exact ⟨rfl, rfl⟩
      · have hr := hide (Pp.any_step K s t k (by rw [hL.out]; exact hlt) HT.out hts hp.out)
        have hne : (t == s) = false := by simp [hts]
        go_wp2
        go_round
        case rel => exact ⟨k + 1, by omega, by go_num, hr⟩
        case measure => simp [intOf]; omega
    · have hr := hide (hg.out.trans (Pp.any_end K s k (by rw [hL.out]; exact hlt) hp.out))
      clear hAt
      go_wp2
      go_ret
      rw [hr.out]
      exact ⟨rfl, rfl⟩

set_option maxRecDepth 100000 in
set_option maxHeartbeats 1000000 in
theorem Word_in (k : Nat) (hk : k < 44) (w : World) (ht : TabS w) :
    Calls Tryd.prog 81 #[.int .i64 (k : Int)] w fun e w' => e = .returned (.string ⟨(Pp.opWords.getD k []).toArray⟩) ∧ w' = w := by
  obtain ⟨t, htt⟩ : ∃ t, t = Pp.opWords.getD k [] := ⟨_, rfl⟩
  have hc := ht.words k t (by
    have hl : k < Pp.opWords.length := hk
    rw [htt, List.getElem?_eq_getElem hl]; simp [List.getD, hl])
  unfold strV at hc
  rw [← htt]
  clear htt ht
  go_enter Tryd.func81, Tryd.ntmps81
  go_wp2
  go_ret
  exact ⟨rfl, rfl⟩
set_option maxRecDepth 100000 in
set_option maxHeartbeats 1000000 in
theorem Word_out (k : Int) (hk : k < 0 ∨ 44 ≤ k) (w : World) :
    Calls Tryd.prog 81 #[.int .i64 k] w fun e w' => e = .returned (.string ⟨#[]⟩) ∧ w' = w := by
  go_enter Tryd.func81, Tryd.ntmps81
  rcases hk with hk | hk
  all_goals (go_wp2; go_ret; exact ⟨rfl, rfl⟩)

end Go.Proofs.YtdgfidaopkcjoaaDoor

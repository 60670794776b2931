/- What the page's Digits, Words, typeWords answer. -/
import Derived.Test.YtdgfidaopkcjoaaDoorMgG
import Derived.Test.YtdgfidaopkcjoaaDoorMgA
import Derived.Laws.BytesArg
namespace Go.Proofs.YtdgfidaopkcjoaaDoor
open Go.RowKit
set_option linter.unusedVariables false
set_option linter.unusedSimpArgs false

theorem str_app (a b : List UInt8) : (⟨a.toArray⟩ : ByteArray) ++ ⟨b.toArray⟩ = ⟨(a ++ b).toArray⟩ := by
  apply ByteArray.ext
  rw [ByteArray.data_append]
  show a.toArray ++ b.toArray = (a ++ b).toArray
  apply Array.ext'
  simp
theorem str_size (a : List UInt8) : (⟨a.toArray⟩ : ByteArray).size = a.length := by simp [ByteArray.size]
theorem str_of_bytes (l : List UInt8) : strOfNums (l.map fun u => ((u.toNat : Nat) : Int)) = ⟨l.toArray⟩ := by
  unfold strOfNums
  rw [List.map_map]
  congr 2
  conv => rhs; rw [← List.map_id l]
  apply List.map_congr_left
  intro a _
  simp
theorem conv_bytes (bs : List UInt8) (w : World) (b off cap : Nat) (hc : ∀ k, k < bs.length → w.cell? ⟨b, off + k, none⟩ = some (.int .u8 ((bs.getD k 0).toNat : Int))) (k n cap' : Nat) (h : k + n ≤ bs.length) :
    (convert 29 9 (.slice (some ⟨b, off + k, none⟩) n cap')).run Tryd.prog w = .ok (.string ⟨((bs.drop k).take n).toArray⟩) w := by
  rw [← str_of_bytes]
  refine run_convert_bytes_arg w 29 5 (by kernel_rfl) (by kernel_rfl) b (off + k) n cap' _ (by simp; omega) (fun i hi => ?_) 9 (by kernel_rfl)
  have := hc (k + i) (by omega)
  rw [show off + k + i = off + (k + i) from by omega, this]
  simp [List.getD, hi, List.getElem?_drop, show k + i < bs.length from by omega]

theorem cell_marked (w : World) (C : Array Value) (e : TypeId) (fz : Nat × Nat) (k : Nat) : (w.alloc (.cells C e fz)).cell? ⟨w.heap.size, k, none⟩ = C[k]? :=
  cell_of_row _ w.heap.size k C e fz (heap_alloc_new w _)
theorem conv_one (u : UInt8) (c : Int) (hu : (u.toNat : Int) = c) (w : World) :
    (convert 29 9 (.slice (some ⟨w.heap.size, 0, none⟩) 1 1)).run Tryd.prog (w.alloc (.cells #[.int .u8 c] 5)) = .ok (.string ⟨#[u]⟩) (w.alloc (.cells #[.int .u8 c] 5)) := by
  subst hu
  have := conv_bytes [u] (w.alloc (.cells #[.int .u8 (u.toNat : Int)] 5)) w.heap.size 0 1 (fun k hk => by
    have : k = 0 := by simp at hk; exact hk
    subst this; rw [cell_marked]; rfl) 0 1 1 (by simp)
  exact this
set_option maxHeartbeats 1000000 in
theorem Digits_nat (f : Nat) (hf : f ≤ 19) : ∀ (n : Nat) (w : World), n < 10 ^ (f + 1) → n ≤ 1099511627776 →
    Calls Tryd.prog 53 #[.int .i64 (n : Int)] w fun e w' => e = .returned (.string ⟨(Lx.digF f n).toArray⟩) ∧ Below w.heap.size w w' := by
  induction f with
  | zero =>
    intro n w hn hb
    have hcv := conv_one (Lx.dg n) (48 + (n : Int) % 10) (by rw [Lx.dg_nat]; omega)
    have hn' : n < 10 := by simpa using hn
    clear hn
    go_enter Tryd.func53, Tryd.ntmps53
    go_wp2_with fail
    go_ret
    exact ⟨rfl, (Below.refl _ _).alloc (Nat.le_refl _) _⟩
  | succ f ih =>
    intro n w hn hb
    have hcv := conv_one (Lx.dg n) (48 + (n : Int) % 10) (by rw [Lx.dg_nat]; omega)
    by_cases h10 : n < 10
    · have HE : Hid (Lx.digF (f + 1) n = [Lx.dg n]) := by show _ = _; rw [Lx.digF, if_pos h10]
      clear ih hn
      go_enter Tryd.func53, Tryd.ntmps53
      go_wp2_with fail
      go_ret
      exact ⟨by rw [HE.out]; rfl, (Below.refl _ _).alloc (Nat.le_refl _) _⟩
    · have HE : Hid (Lx.digF (f + 1) n = Lx.digF f (n / 10) ++ [Lx.dg n]) := by show _ = _; rw [Lx.digF, if_neg h10]
      have hlen := (Lx.digF_len f (n / 10)).2
      have hih := fun w' => ih (by omega) (n / 10) w' (by rw [Nat.pow_succ] at hn; omega) (by omega)
      rw [show ((n / 10 : Nat) : Int) = (n : Int) / 10 from by omega] at hih
      have HI : Hid (∀ w', Calls Tryd.prog 53 #[.int .i64 ((n : Int) / 10)] w' fun e w'' => e = .returned (.string ⟨(Lx.digF f (n / 10)).toArray⟩) ∧ Below w'.heap.size w' w'') := hih
      clear hih ih hn
      go_enter Tryd.func53, Tryd.ntmps53
      go_wp2_with fail
      refine (HI.out _).mono ?_
      rintro e w1 ⟨rfl, hb1⟩
      have hB : Below w.heap.size w w1 := ((Below.refl _ _).alloc (Nat.le_refl _) _).trans (hb1.mono (by simp))
      clear HI hb1 hcv
      have hst := str_app (Lx.digF f (n / 10)) [Lx.dg n]
      have hsz := str_size (Lx.digF f (n / 10))
      rw [← HE.out] at hst
      generalize (⟨(Lx.digF f (n / 10)).toArray⟩ : ByteArray) = S at *
      have HST : Hid (S ++ ⟨[Lx.dg n].toArray⟩ = ⟨(Lx.digF (f + 1) n).toArray⟩) := hst
      have hs1 : S.size ≤ 30 := by omega
      clear hst hsz HE hlen
      go_wp2_with fail
      go_ret
      exact ⟨by rw [← HST.out]; rfl, hB⟩

set_option maxHeartbeats 1000000 in
theorem Digits_any (n : Int) (h0 : -1099511627776 ≤ n) (h1 : n ≤ 1099511627776) (w : World) :
    Calls Tryd.prog 53 #[.int .i64 n] w fun e w' => e = .returned (.string ⟨(Lx.intL n).toArray⟩) ∧ Below w.heap.size w w' := by
  by_cases hn : n < 0
  · have hE : Lx.intL n = [45] ++ Lx.digF 19 n.natAbs := by rw [Lx.intL, if_pos hn]; rfl
    have hst := str_app [45] (Lx.digF 19 n.natAbs)
    have hlen := (Lx.digF_len 19 n.natAbs).2
    have hsz := str_size (Lx.digF 19 n.natAbs)
    rw [← hE] at hst
    have hd := fun w => Digits_nat 19 (by omega) n.natAbs w (by omega) (by omega)
    rw [show ((n.natAbs : Nat) : Int) = -n from by omega] at hd
    have HD : Hid (∀ w, Calls Tryd.prog 53 #[.int .i64 (-n)] w fun e w' => e = .returned (.string ⟨(Lx.digF 19 n.natAbs).toArray⟩) ∧ Below w.heap.size w w') := hd
    clear hd hE
    generalize (⟨(Lx.digF 19 n.natAbs).toArray⟩ : ByteArray) = S at *
    have HST : Hid ((⟨[45].toArray⟩ : ByteArray) ++ S = ⟨(Lx.intL n).toArray⟩) := hst
    have hs1 : S.size ≤ 30 := by omega
    clear hst hsz hlen
    go_enter Tryd.func53, Tryd.ntmps53
    go_wp2_with fail
    refine (HD.out _).mono ?_
    rintro e w1 ⟨rfl, hb1⟩
    go_wp2_with fail
    go_ret
    exact ⟨by rw [← HST.out]; rfl, hb1⟩
  · have hd := Digits_nat 19 (by omega) n.natAbs w (by omega) (by omega)
    rw [show ((n.natAbs : Nat) : Int) = n from by omega] at hd
    rw [Lx.intL, if_neg hn]
    exact hd


/-- A row of words of the call's own. -/
def WordsAt (w : World) (g : Nat) : Prop := w.heap[g]? = some (.cells (Pp.opWords.map fun t => Value.string ⟨t.toArray⟩).toArray 9 (0, 0))
set_option maxRecDepth 100000 in
set_option maxHeartbeats 4000000 in
theorem Words_any (w : World) :
    Calls Tryd.prog 54 #[] w fun e w' => e = .returned (.slice (some ⟨w.heap.size, 0, none⟩) 44 44) ∧ WordsAt w' w.heap.size ∧ Below w.heap.size w w' := by
  go_enter Tryd.func54, Tryd.ntmps54
  go_wp2_with fail
  go_ret
  refine ⟨rfl, ?_, (Below.refl _ _).alloc (Nat.le_refl _) _⟩
  unfold WordsAt
  rw [heap_alloc_new w _]
  rfl

theorem typeT_two (t : Pp.Ty) : Pp.typeT t = Pp.typeT2 t := rfl
theorem tws_len {t : Pp.Ty} (h : Pp.okTy t) : (Pp.tws t).length ≤ 24 := by
  have hb := (Pp.typeB_iff t).2 h
  obtain ⟨k, n⟩ := t
  unfold Pp.tws Pp.typeT2
  rw [if_pos hb]
  rcases h with ⟨h, h2⟩ | ⟨h, h2⟩
  · simp only at h h2
    subst h2
    rcases h with rfl | rfl | rfl <;> decide
  · simp only at h h2
    have := Lx.nameL_len _ h2.1
    rcases h with rfl | rfl
    · simp [Pp.tyW, Pp.wtx, Pp.nm]; omega
    · simp; omega
set_option maxHeartbeats 4000000 in
theorem refTypeWords_any (t : Pp.Ty) (h : Pp.okTy t) (w : World) :
    Calls Tryd.prog 30 #[.agg #[.int .i64 t.kind, .string ⟨t.name.toArray⟩]] w fun e w' => e = .returned (.string ⟨(Pp.tws t).toArray⟩) ∧ Below w.heap.size w w' := by
  have hs : t.name.length ≤ maxLen := by
    rcases h with ⟨_, h2⟩ | ⟨_, h2⟩
    · rw [h2]; simp
    · have := Lx.nameL_len _ h2.1; unfold maxLen; omega
  have hT := hide (fun w' => TypeText_any t hs w')
  have HB1 : Hid (∀ o, Below w.heap.size w (w.alloc o)) := hide fun o => (Below.refl _ _).alloc (Nat.le_refl _) o
  have hn20 : t.kind = 5 → t.name.length ≤ 20 := fun h5 => by
    rcases h with ⟨h1, _⟩ | ⟨_, h2⟩
    · omega
    · exact Lx.nameL_len _ h2.1
  have hE : Hid (Pp.tws t = if t.kind = 4 then [105, 110, 116, 32, 91, 32, 93] else if t.kind = 5 then t.name ++ [32, 91, 32, 93] else Pp.typeT2 t) := hide rfl
  generalize Pp.tws t = R at *
  have hT' : Hid (∀ w', Calls Tryd.prog 11 #[.agg #[.int .i64 t.kind, .string ⟨t.name.toArray⟩]] w' fun e w'' => e = .returned (.string ⟨(Pp.typeT2 t).toArray⟩) ∧ Below w'.heap.size w' w'') := hT
  generalize Pp.typeT2 t = T2 at *
  obtain ⟨k, n⟩ := t
  simp only at *
  clear h hT hs
  by_cases h4 : k = 4
  · subst h4
    have hR : R = [105, 110, 116, 32, 91, 32, 93] := by rw [hE.out, if_pos rfl]
    subst hR
    clear hE hT'
    generalize (⟨n.toArray⟩ : ByteArray) = S at *
    go_enter Tryd.func30, Tryd.ntmps30
    go_wp2_with fail
    go_ret
    exact ⟨rfl, HB1.out _⟩
  by_cases h5 : k = 5
  · subst h5
    have hR : R = n ++ [32, 91, 32, 93] := by rw [hE.out, if_neg (by decide), if_pos rfl]
    have hap : Hid ((⟨n.toArray⟩ : ByteArray) ++ ⟨#[32, 91, 32, 93]⟩ = ⟨R.toArray⟩) := hide (by rw [hR]; apply ByteArray.ext; simp)
    have hn := hn20 rfl
    have hsz : (⟨n.toArray⟩ : ByteArray).size ≤ 20 := by rw [str_size]; exact hn
    clear hR hE hT' hn hn20
    generalize (⟨n.toArray⟩ : ByteArray) = S at *
    go_enter Tryd.func30, Tryd.ntmps30
    go_wp2_with fail
    go_ret
    exact ⟨by first | rfl | (rw [← hap.out]; rfl), HB1.out _⟩
  · have hR : R = T2 := by rw [hE.out, if_neg h4, if_neg h5]
    subst hR
    have e4 : (k == 4) = false := by simpa using h4
    have e5 : (k == 5) = false := by simpa using h5
    clear hE h4 h5 hn20
    generalize hS : (⟨n.toArray⟩ : ByteArray) = S at *
    go_enter Tryd.func30, Tryd.ntmps30
    go_wp2_with fail
    refine (hT'.out _).mono ?_
    rintro e w2 ⟨rfl, hb2⟩
    have HB2 := hide (((Below.refl _ _).alloc (Nat.le_refl _) _).trans (hb2.mono (by simp)))
    clear hb2 hT'
    go_wp2_with fail
    go_ret
    exact ⟨rfl, HB2.out⟩

end Go.Proofs.YtdgfidaopkcjoaaDoor

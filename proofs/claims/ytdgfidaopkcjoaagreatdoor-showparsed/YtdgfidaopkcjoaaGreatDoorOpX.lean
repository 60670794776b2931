/- Op. -/
import Derived.Test.YtdgfidaopkcjoaaGreatDoorRd
import Derived.Test.YtdgfidaopkcjoaaGreatDoorKeptOp
import Derived.Deep.Cut
import Derived.WideShapes
namespace Go.Proofs.YtdgfidaopkcjoaaGreatDoor
open Go.RowKit
set_option linter.unusedVariables false
set_option linter.unusedSimpArgs false

theorem load_tab (w : World) (g : Nat) (t : TypeId) (n : Nat) (ls : List (List UInt8)) (ht : Tryz.prog.underlying t = some (.array n 9)) (hi : (Tryz.prog.info? t).map (·.size) = some n) (hn : ls.length = n)
    (hc : ∀ j l, ls[j]? = some l → w.cell? ⟨g, j, none⟩ = some (.string ⟨l.toArray⟩)) :
    (Instr.loadAt t (.pointer (some ⟨g, 0, none⟩))).run Tryz.prog w = .ok (.agg (ls.map fun l => Value.string ⟨l.toArray⟩).toArray) w := by
  have hl := run_loadCells_list (P := Tryz.prog) w ⟨g, 0, none⟩ (ls.map fun l => Value.string ⟨l.toArray⟩) (fun j v hv => by
    rw [List.getElem?_map] at hv
    obtain ⟨l, h1, rfl⟩ := Option.map_eq_some_iff.1 hv
    rw [Go.WideShapes.add_plain, Nat.zero_add]
    exact hc j l h1)
  rw [List.length_map, hn] at hl
  obtain ⟨i0, h1, h2⟩ := Option.map_eq_some_iff.1 hi
  have hq := h1
  have hagg : (isAgg t).run Tryz.prog w = .ok true w := by
    unfold isAgg
    rw [Sem.run_bind, run_underlying ht w]
    simp
  simp [Instr.loadAt, Instr.sureAddr, loadVar, Sem.run_bind, hagg, sizeOf, typeInfo, hq, h2, hl]
theorem wpList_load {P : Program} (w : World) {ops : Array Oper} {rest : List Oper} {o : Oper} {a : Act} {Q : Exit → Act → World → Prop} (hgd : Region.wanted o (yielded ops a.tmps) = true) (t : TypeId) (x : Operand) (ho : o.op = .load t x) (v : Value)
    (hl : (Instr.loadAt t (a.eval x)).run P w = .ok v w) (h : wpList P ops Q rest (a.put o.dst v) w) : wpList P ops Q (o :: rest) a w :=
  wpList_step fun K hK => by
    rw [if_pos hgd]
    unfold Oper.wp execOp
    simp only [ho, Sem.run_bind, Sem.run_pure, Result.andThen_ok, hl]
    exact hK _ _ h

def opN (s : List UInt8) : Nat := (Pp.opL s).getD 0
set_option maxRecDepth 100000 in
set_option maxHeartbeats 2000000 in
theorem Op_gen (s : List UInt8) (w : World) (v : Nat → List UInt8) (hv : ∀ i, i < 44 → w.cell? ⟨1, i, none⟩ = some (.string ⟨(v i).toArray⟩)) (K : List (List UInt8)) (hKv : K = (List.range 44).map v) (R : Nat) (B : Bool) (hR : Hid (R = (K.findIdx? (· == s)).getD 0)) (hB : Hid (B = (K.findIdx? (· == s)).isSome)) :
    Calls Tryz.prog 100 #[.string ⟨s.toArray⟩] w fun e w' => e = .returned (.tuple #[.int .i64 (R : Int), .bool B]) ∧ w' = w := by
  have hl := load_tab w 1 149 44 ((List.range 44).map v) Tryz.underlying149 (by kernel_rfl) (by simp) (fun j l hj => by
    have hjl : j < 44 := by
      rcases Nat.lt_or_ge j 44 with h | h
      · exact h
      · rw [List.getElem?_eq_none (by simpa using h)] at hj; cases hj
    rw [List.getElem?_map, List.getElem?_range hjl] at hj
    simp at hj
    subst hj
    exact hv j hjl)
  clear hv
  go_enter Tryz.func100, Tryz.ntmps100
  go_upto_region 1 with fail
  refine wp_region_lit ?_
  refine wpList_load w rfl 149 (.global 1) rfl _ hl ?_
  clear hl
  have hL : Hid (K.length = 44) := by rw [hKv]; exact hide (by simp)
  generalize hA : ((List.map (fun l : List UInt8 => Value.string ⟨l.toArray⟩) ((List.range 44).map v)).toArray : Array Value) = A
  have hAK : A = (K.map fun t => Value.string ⟨t.toArray⟩).toArray := by rw [← hA, hKv]
  clear hA hKv
  have hAt : ∀ k, k < 44 → A[k]? = some (.string ⟨(K.getD k []).toArray⟩) := by
    intro k hk; rw [hAK]; simp [List.getD, show k < K.length by have := hL.out; omega]
  clear hAK
  go_wp2
  go_loop [7] (fun i => ∃ k : Nat, k ≤ 44 ∧ i = .int .i64 k ∧ Hid ((K.take k).any (· == s) = false)) (fun i => 44 - (intOf i).toNat)
  case atStart => exact ⟨0, by omega, rfl, rfl⟩
  case round =>
    obtain ⟨k, hk, rfl, hp⟩ := hrel
    by_cases hlt : k < 44
    · have hix := index_str w A 149 44 k _ Tryz.underlying149 hlt (hAt k hlt)
      clear hAt
      obtain ⟨t, htt⟩ : ∃ t, t = K.getD k [] := ⟨_, rfl⟩
      rw [← htt] at hix
      have HT := hide htt
      clear htt
      by_cases hts : t = s
      · have hr := hide (Pp.find_at K s t k (by rw [hL.out]; exact hlt) HT.out hts hp.out)
        subst hts
        go_wp2
        go_ret2
        rw [hR.out, hB.out, hr.out]
        exact ⟨rfl, rfl⟩
      · have hr := hide (Pp.any_step K s t k (by rw [hL.out]; exact hlt) HT.out hts hp.out)
        have hne : (t == s) = false := by simp [hts]
        go_wp2
        go_round
        case rel => exact ⟨k + 1, by omega, by go_num, hr⟩
        case measure => simp [intOf]; omega
    · have hr := hide (Pp.find_end K s k (by rw [hL.out]; exact hlt) hp.out)
      clear hAt
      go_wp2
      go_ret2
      rw [hR.out, hB.out, hr.out]
      exact ⟨rfl, rfl⟩

theorem words_range : Pp.opWords = (List.range 44).map fun i => Pp.opWords.getD i [] := by decide +kernel
theorem Op_any (s : List UInt8) (w : World) (ht : TabS w) :
    Calls Tryz.prog 100 #[.string ⟨s.toArray⟩] w fun e w' => e = .returned (.tuple #[.int .i64 (opN s : Int), .bool (Pp.opL s).isSome]) ∧ w' = w :=
  Op_gen s w (fun i => Pp.opWords.getD i []) (fun i hi => ht.words i _ (by
    have hl : i < Pp.opWords.length := hi
    rw [List.getElem?_eq_getElem hl]; simp [List.getD, hl])) Pp.opWords words_range _ _ (hide rfl) (hide rfl)

set_option maxRecDepth 100000 in
set_option maxHeartbeats 1000000 in
theorem Word_in (k : Nat) (hk : k < 44) (w : World) (ht : TabS w) :
    Calls Tryz.prog 86 #[.int .i64 (k : Int)] w fun e w' => e = .returned (.string ⟨(Pp.opWords.getD k []).toArray⟩) ∧ w' = w := by
  obtain ⟨t, htt⟩ : ∃ t, t = Pp.opWords.getD k [] := ⟨_, rfl⟩
  have hc := ht.words k t (by
    have hl : k < Pp.opWords.length := hk
    rw [htt, List.getElem?_eq_getElem hl]; simp [List.getD, hl])
  unfold strV at hc
  rw [← htt]
  clear htt ht
  go_enter Tryz.func86, Tryz.ntmps86
  go_wp2
  go_ret
  exact ⟨rfl, rfl⟩
set_option maxRecDepth 100000 in
set_option maxHeartbeats 1000000 in
theorem Word_out (k : Int) (hk : k < 0 ∨ 44 ≤ k) (w : World) :
    Calls Tryz.prog 86 #[.int .i64 k] w fun e w' => e = .returned (.string ⟨#[]⟩) ∧ w' = w := by
  go_enter Tryz.func86, Tryz.ntmps86
  rcases hk with hk | hk
  all_goals (go_wp2; go_ret; exact ⟨rfl, rfl⟩)
end Go.Proofs.YtdgfidaopkcjoaaGreatDoor

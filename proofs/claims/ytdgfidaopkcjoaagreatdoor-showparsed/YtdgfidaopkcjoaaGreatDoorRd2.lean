/- The reader's small calls: now, fail, sees, seesFresh, skip, want, first, fresh, number, more. -/
import Derived.Test.YtdgfidaopkcjoaaGreatDoorKeptOp
import Derived.BigQuiet
import Derived.BigRegion
import Derived.Deep.QuietTactic
namespace Go.Proofs.YtdgfidaopkcjoaaGreatDoor
open Go.RowKit
set_option linter.unusedVariables false
set_option linter.unusedSimpArgs false

theorem below_drewN {B : Nat} {a w : World} (h : Below B a w) (n : Nat) : Below B a (w.drewN n) := ⟨h.os, h.tape, h.output, h.size, h.block⟩


set_option maxRecDepth 100000 in
set_option maxHeartbeats 1000000 in
theorem now_any {w : World} {b : Nat} {C : Cx} {s : Pp.St} (h : Rd w b C s) :
    Calls Tryz.prog 32 #[.pointer (some ⟨b, 0, none⟩)] w fun e w' => e = .returned (tokV (nowT C.tk s)) ∧ Below w.heap.size w w' := by
  obtain ⟨i, er⟩ := s
  have hi : i ≤ C.tk.length := h.hi
  have hn := h.hn
  have hlt := h.lt
  obtain ⟨a, cap, hv⟩ := h.shape
  have HV := hide hv
  have d0 : ∀ o, (w.alloc o).cell? ⟨b, 0, none⟩ = some (.slice a C.tk.length cap) := fun o => (h.alloc o).c0.trans (by rw [HV.out])
  have d1 : ∀ o, (w.alloc o).cell? ⟨b, 1, none⟩ = some (.int .i64 i) := fun o => (h.alloc o).c1
  have d4 : ∀ o, (w.alloc o).cell? ⟨b, 4, none⟩ = some (.int .i64 er) := fun o => (h.alloc o).c4
  by_cases he : er = 0
  · subst he
    by_cases hlt : i < C.tk.length
    · obtain ⟨t, ht⟩ : ∃ t, C.tk[i]? = some t := ⟨_, List.getElem?_eq_getElem hlt⟩
      obtain ⟨g, cap', hv', hcap, hcm, t0, t1, t2, t3⟩ := (h.alloc (.cells #[.int .i64 0, .string ⟨#[]⟩, .int .i64 0, .int .i64 0] 85)).tok i t ht
      rw [hv] at hv'
      cases hv'
      have hnow := hide (show nowT C.tk ⟨i, 0⟩ = t from by simp [nowT, List.getD, ht])
      obtain ⟨n, hN⟩ : ∃ n, n = C.tk.length := ⟨_, rfl⟩
      rw [← hN] at hlt hi hn hcap d0
      have HN := hide hN
      clear hN ht hv
      go_enter Tryz.func32, Tryz.ntmps32
      go_wp2
      have d0' := d0 (.cells #[.int .i64 0, .string ⟨#[]⟩, .int .i64 0, .int .i64 0] 85)
      have d1' := d1 (.cells #[.int .i64 0, .string ⟨#[]⟩, .int .i64 0, .int .i64 0] 85)
      have d4' := d4 (.cells #[.int .i64 0, .string ⟨#[]⟩, .int .i64 0, .int .i64 0] 85)
      clear d0 d1 d4
      go_quiet (fail)
      go_wp2
      go_region
      all_goals go_wp2
      exact bodyPost_ret (v := tokV t) (by simp [results, Tryz.results32, go_sem, tokV]) rfl ⟨by rw [hnow.out], (by repeat (first | exact Below.refl _ _ | refine Below.setCell ?_ (by simp) _ | refine below_drewN ?_ _ | refine Below.drew ?_ | refine Below.alloc ?_ (by simp) _))⟩
    · have hnow := hide (show nowT C.tk ⟨i, 0⟩ = noTok from by simp [nowT, List.getD, show C.tk.length ≤ i by omega])
      obtain ⟨n, hN⟩ : ∃ n, n = C.tk.length := ⟨_, rfl⟩
      rw [← hN] at hlt hi hn d0
      have HN := hide hN
      clear hN hv
      go_enter Tryz.func32, Tryz.ntmps32
      go_wp2
      have d0' := d0 (.cells #[.int .i64 0, .string ⟨#[]⟩, .int .i64 0, .int .i64 0] 85)
      have d1' := d1 (.cells #[.int .i64 0, .string ⟨#[]⟩, .int .i64 0, .int .i64 0] 85)
      have d4' := d4 (.cells #[.int .i64 0, .string ⟨#[]⟩, .int .i64 0, .int .i64 0] 85)
      clear d0 d1 d4
      go_quiet (fail)
      go_wp2
      exact bodyPost_ret (v := tokV noTok) (by simp [results, Tryz.results32, go_sem, tokV, noTok]) rfl ⟨by rw [hnow.out], (by repeat (first | exact Below.refl _ _ | refine Below.setCell ?_ (by simp) _ | refine below_drewN ?_ _ | refine Below.drew ?_ | refine Below.alloc ?_ (by simp) _))⟩
  · have hd : (er != 0) = true := by simp [he]
    have hnow := hide (show nowT C.tk ⟨i, er⟩ = noTok from by simp [nowT, he])
    go_enter Tryz.func32, Tryz.ntmps32
    go_wp2
    have d0' := d0 (.cells #[.int .i64 0, .string ⟨#[]⟩, .int .i64 0, .int .i64 0] 85)
    have d1' := d1 (.cells #[.int .i64 0, .string ⟨#[]⟩, .int .i64 0, .int .i64 0] 85)
    have d4' := d4 (.cells #[.int .i64 0, .string ⟨#[]⟩, .int .i64 0, .int .i64 0] 85)
    clear d0 d1 d4
    go_quiet (fail)
    go_wp2
    exact bodyPost_ret (v := tokV noTok) (by simp [results, Tryz.results32, go_sem, tokV, noTok]) rfl ⟨by rw [hnow.out], (by repeat (first | exact Below.refl _ _ | refine Below.setCell ?_ (by simp) _ | refine below_drewN ?_ _ | refine Below.drew ?_ | refine Below.alloc ?_ (by simp) _))⟩

theorem Fr.drewN {S : List Nat} {a w : World} (h : Fr S a w) (n : Nat) : Fr S a (w.drewN n) := ⟨h.os, h.tape, h.output, h.size, h.block⟩
theorem Fr.drew {S : List Nat} {a w : World} (h : Fr S a w) : Fr S a w.drew := ⟨h.os, h.tape, h.output, h.size, h.block⟩

set_option maxRecDepth 100000 in
set_option maxHeartbeats 1000000 in
theorem fail_any {w : World} {b : Nat} {C : Cx} {s : Pp.St} (h : Rd w b C s) (k : Int) (hk : k ≠ 0) :
    Calls Tryz.prog 18 #[.pointer (some ⟨b, 0, none⟩), .int .i64 k] w fun e w' => e = .returned (.tuple #[]) ∧ Rd w' b C (Pp.failS s k) ∧ Fr [b] w w' := by
  obtain ⟨i, er⟩ := s
  have hi : i ≤ C.tk.length := h.hi
  have hn := h.hn
  have hlt := h.lt
  obtain ⟨a, cap, hv⟩ := h.shape
  have d0 := h.c0
  rw [hv] at d0
  have d1 := h.c1
  have d2 := h.c2
  have d3 := h.c3
  have d4 := h.c4
  have f3 := h.fz 3
  have f4 := h.fz 4
  simp only at d1 d4
  by_cases he : er = 0
  · subst he
    have H := hide h
    by_cases hlt : i < C.tk.length
    · obtain ⟨t, ht⟩ : ∃ t, C.tk[i]? = some t := ⟨_, List.getElem?_eq_getElem hlt⟩
      obtain ⟨g, cap', hv', hcap, hcm, t0, t1, t2, t3⟩ := h.tok i t ht
      have HT := hide ht
      rw [hv] at hv'
      cases hv'
      have hgb : ¬ g = b := by
        intro e
        subst e
        have h1 := h.blk
        rcases h.wds.2 with ⟨q, _⟩ | ⟨g', cap', cur, q, _, hg, _⟩
        · rw [hv] at q; cases q
        · rw [hv] at q; cases q; rw [h1] at hg; simp at hg
      obtain ⟨n, hN⟩ : ∃ n, n = C.tk.length := ⟨_, rfl⟩
      rw [← hN] at hlt hi hn hcap d0
      have HN := hide hN
      clear hN ht hv t0 t1 t2 h
      go_enter Tryz.func18, Tryz.ntmps18
      go_wp2
      go_quiet (fail)
      go_wp2
      go_region
      all_goals go_wp2
      refine bodyPost_end (v := .tuple #[]) (by simp [results, Tryz.results18, go_sem]) rfl ⟨rfl, ?_⟩
      have hf : Fr [b] w ((((w.setCell ⟨b, 3, none⟩ (.int .i64 (C.en : Int))).drewN (nq + 1)).setCell ⟨b, 3, none⟩ (.int .i64 (t.pos : Int))).setCell ⟨b, 4, none⟩ (.int .i64 k)) :=
        ((((Fr.refl _ _).setCell (.inl (by simp)) _).drewN _).setCell (.inl (by simp)) _).setCell (.inl (by simp)) _
      refine ⟨H.out.toFail k hk rfl _ hf ?_, hf⟩
      have e1 := blk_set H.out.blk 3 (by simp [rdCells]) (.int .i64 (C.en : Int))
      have e2 := blk_set (w := (w.setCell ⟨b, 3, none⟩ (.int .i64 (C.en : Int))).drewN (nq + 1)) e1 3 (by simp [rdCells]) (.int .i64 (t.pos : Int))
      have e3 := blk_set e2 4 (by simp [rdCells]) (.int .i64 k)
      rw [e3]
      simp [rdCells, Pp.place, HT.out]
    · have hpl := hide (show Pp.place C.tk C.en i = C.en from by simp [Pp.place, show C.tk.length ≤ i by omega])
      obtain ⟨n, hN⟩ : ∃ n, n = C.tk.length := ⟨_, rfl⟩
      rw [← hN] at hlt hi hn d0
      have HN := hide hN
      clear hN hv h
      go_enter Tryz.func18, Tryz.ntmps18
      go_wp2
      go_quiet (fail)
      go_wp2
      refine bodyPost_end (v := .tuple #[]) (by simp [results, Tryz.results18, go_sem]) rfl ⟨rfl, ?_⟩
      have hf : Fr [b] w (((w.setCell ⟨b, 3, none⟩ (.int .i64 (C.en : Int))).drewN nq).setCell ⟨b, 4, none⟩ (.int .i64 k)) :=
        (((Fr.refl _ _).setCell (.inl (by simp)) _).drewN _).setCell (.inl (by simp)) _
      refine ⟨H.out.toFail k hk rfl _ hf ?_, hf⟩
      have e1 := blk_set H.out.blk 3 (by simp [rdCells]) (.int .i64 (C.en : Int))
      have e3 := blk_set (w := (w.setCell ⟨b, 3, none⟩ (.int .i64 (C.en : Int))).drewN nq) e1 4 (by simp [rdCells]) (.int .i64 k)
      rw [e3]
      simp [rdCells, hpl.out]
  · have hd : (er != 0) = true := by simp [he]
    have H := hide h
    have e : Pp.failS ⟨i, er⟩ k = ⟨i, er⟩ := by simp [Pp.failS, he]
    rw [e]
    clear h e hv
    go_enter Tryz.func18, Tryz.ntmps18
    go_wp2
    exact bodyPost_ret (v := .tuple #[]) (by simp [results, Tryz.results18, go_sem]) rfl ⟨rfl, H.out, Fr.refl _ _⟩

def StrsAt (w : World) (g : Nat) (ts : List (List UInt8)) : Prop := ∀ j t, ts[j]? = some t → w.cell? ⟨g, j, none⟩ = some (.string ⟨t.toArray⟩)

set_option maxRecDepth 100000 in
set_option maxHeartbeats 1000000 in
theorem Contains_any (w : World) (g : Nat) (ts : List (List UInt8)) (hl : ts.length ≤ 100) (hc : StrsAt w g ts) (s : List UInt8) :
    Calls Tryz.prog 31 #[.slice (some ⟨g, 0, none⟩) ts.length ts.length, .string ⟨s.toArray⟩] w fun e w' => e = .returned (.bool (ts.any (· == s))) ∧ w' = w := by
  have hix : Calls Tryz.prog 56 #[.slice (some ⟨g, 0, none⟩) ts.length ts.length, .string ⟨s.toArray⟩] w fun e w' => ∃ i : Int, e = .returned (.int .i64 i) ∧ (decide (0 ≤ i) = ts.any (· == s)) ∧ w' = w := by
    obtain ⟨n, hN⟩ : ∃ n, n = ts.length := ⟨_, rfl⟩
    rw [← hN] at hl ⊢
    have HN := hide hN
    clear hN
    go_enter Tryz.func56, Tryz.ntmps56
    go_wp2
    go_loop [8] (fun i => ∃ k : Nat, k ≤ n ∧ i = .int .i64 k ∧ Hid ((ts.take k).any (· == s) = false)) (fun i => n - (intOf i).toNat)
    case atStart => exact ⟨0, by omega, rfl, rfl⟩
    case round =>
      obtain ⟨k, hk, rfl, hp⟩ := hrel
      by_cases hlt : k < n
      · obtain ⟨t, htt⟩ : ∃ t, t = ts.getD k [] := ⟨_, rfl⟩
        have hck := hc k t (by rw [htt, List.getElem?_eq_getElem (by rw [← HN.out]; exact hlt)]; simp [List.getD, show k < ts.length by rw [← HN.out]; exact hlt])
        have HT := hide htt
        clear htt
        by_cases hts : t = s
        · have hr := hide (Pp.any_at ts s t k (by rw [← HN.out]; exact hlt) HT.out hts)
          subst hts
          go_wp2
          go_ret
          exact ⟨_, rfl, by rw [hr.out]; simp, rfl⟩
        · have hr := hide (Pp.any_step ts s t k (by rw [← HN.out]; exact hlt) HT.out hts hp.out)
          have hne : (t == s) = false := by simp [hts]
          have hne' : (s == t) = false := by simp [Ne.symm hts]
          go_wp2
          go_round
          case rel => exact ⟨k + 1, by omega, by go_num, hr⟩
          case measure => simp [intOf]; omega
      · have hr := hide (Pp.any_end ts s k (by rw [← HN.out]; exact hlt) hp.out)
        go_wp2
        go_ret
        exact ⟨_, rfl, by rw [hr.out]; rfl, rfl⟩
  have HX := hide hix
  clear hix
  go_enter Tryz.func31, Tryz.ntmps31
  go_wp2_with (go_at_call 56; refine HX.out.mono ?_; rintro e w' ⟨i, rfl, hi, rfl⟩)
  go_ret
  exact ⟨by rw [← hi]; rfl, rfl⟩

theorem StrsAt.below {w w' : World} {g : Nat} {ts : List (List UInt8)} (h : StrsAt w g ts) (hg : g < w.heap.size) (hb : Below w.heap.size w w') : StrsAt w' g ts := fun j t hj => (hb.cell (by exact hg)).trans (h j t hj)

theorem field_text (x y z u : Value) (w : World) : (Instr.field 85 (.agg #[x, y, z, u]) 1).run Tryz.prog w = .ok y w := by
  simp [Instr.field, run_underlying Tryz.underlying85, part, isAgg, asAgg, run_underlying Tryz.underlying9, go_sem]
def isAny (ts : List (List UInt8)) (w : Pp.Wd) : Bool := ts.any (· == w.text)
set_option maxRecDepth 100000 in
set_option maxHeartbeats 1000000 in
theorem sees_any {w : World} {b : Nat} {C : Cx} {s : Pp.St} (h : Rd w b C s) (g : Nat) (ts : List (List UInt8)) (hl : ts.length ≤ 100) (hne : ts.any (· == []) = false) (hc : StrsAt w g ts) (hg : g < w.heap.size) :
    Calls Tryz.prog 16 #[.pointer (some ⟨b, 0, none⟩), .slice (some ⟨g, 0, none⟩) ts.length ts.length] w fun e w' => e = .returned (.bool (Pp.has C.ws s (isAny ts))) ∧ Below w.heap.size w w' := by
  have hr := hide (has_now C s (isAny ts) hne)
  have hN := hide (now_any h)
  have hK := hide (fun w' (hb : Below w.heap.size w w') => Contains_any w' g ts hl (hc.below hg hb) (nowT C.tk s).text)
  clear hc h hne
  obtain ⟨t, ht⟩ : ∃ t, t = nowT C.tk s := ⟨_, rfl⟩
  rw [← ht] at hN hK
  have HT := hide ht
  clear ht
  unfold tokV at hN
  have hfd := field_text
  go_enter Tryz.func16, Tryz.ntmps16
  go_wp2_with (first | (go_at_call 32; refine hN.out.mono ?_; rintro e w1 ⟨rfl, hb1⟩) | (go_at_call 31; refine (hK.out _ hb1).mono ?_; rintro e w2 ⟨rfl, rfl⟩))
  go_ret
  refine ⟨?_, hb1⟩
  rw [hr.out, ← HT.out]
  rfl

end Go.Proofs.YtdgfidaopkcjoaaGreatDoor

/- The reader's calls that go on: seesFresh, skip, want, first, fresh, number, more. -/
import Derived.Test.YtdgfidaopkcjoaaGreatDoorRd2
namespace Go.Proofs.YtdgfidaopkcjoaaGreatDoor
open Go.RowKit
set_option linter.unusedVariables false
set_option linter.unusedSimpArgs false

theorem strs_one (w : World) (t : List UInt8) (e : TypeId) : StrsAt (w.alloc (.cells #[.string ⟨t.toArray⟩] e)) w.heap.size [t] := by
  intro j u hj
  match j, hj with
  | 0, hj => simp at hj; subst hj; rw [cell_blk (heap_alloc_new w _)]; rfl
theorem strs_two (w : World) (t u : List UInt8) (e : TypeId) : StrsAt (w.alloc (.cells #[.string ⟨t.toArray⟩, .string ⟨u.toArray⟩] e)) w.heap.size [t, u] := by
  intro j x hj
  match j, hj with
  | 0, hj => simp at hj; subst hj; rw [cell_blk (heap_alloc_new w _)]; rfl
  | 1, hj => simp at hj; subst hj; rw [cell_blk (heap_alloc_new w _)]; rfl
theorem isAny_one (t : List UInt8) : isAny [t] = Pp.isW t := by
  funext w; simp only [isAny, Pp.isW, List.any_cons, List.any_nil, Bool.or_false]
  exact BEq.comm
theorem isAny_two (t u : List UInt8) : isAny [t, u] = Pp.isW2 t u := by
  funext w; simp only [isAny, Pp.isW2, List.any_cons, List.any_nil, Bool.or_false]
  rw [show (t == w.text) = (w.text == t) from BEq.comm, show (u == w.text) = (w.text == u) from BEq.comm]
theorem sees_one {w : World} {b : Nat} {C : Cx} {s : Pp.St} (h : Rd w b C s) (t : List UInt8) (ht : t ≠ []) (e : TypeId) :
    Calls Tryz.prog 16 #[.pointer (some ⟨b, 0, none⟩), .slice (some ⟨w.heap.size, 0, none⟩) 1 1] (w.alloc (.cells #[.string ⟨t.toArray⟩] e)) fun e w' => e = .returned (.bool (Pp.has C.ws s (Pp.isW t))) ∧ Below w.heap.size w w' := by
  have := sees_any (h.alloc (.cells #[.string ⟨t.toArray⟩] e)) w.heap.size [t] (by simp) (by simpa using ht) (strs_one w t e) (by simp)
  rw [isAny_one] at this
  exact this.mono fun e w' ⟨h1, h2⟩ => ⟨h1, ((Below.refl _ _).alloc (Nat.le_refl _) _).trans (h2.mono (by simp))⟩
theorem sees_two {w : World} {b : Nat} {C : Cx} {s : Pp.St} (h : Rd w b C s) (t u : List UInt8) (ht : t ≠ []) (hu : u ≠ []) (e : TypeId) :
    Calls Tryz.prog 16 #[.pointer (some ⟨b, 0, none⟩), .slice (some ⟨w.heap.size, 0, none⟩) 2 2] (w.alloc (.cells #[.string ⟨t.toArray⟩, .string ⟨u.toArray⟩] e)) fun e w' => e = .returned (.bool (Pp.has C.ws s (Pp.isW2 t u))) ∧ Below w.heap.size w w' := by
  have := sees_any (h.alloc (.cells #[.string ⟨t.toArray⟩, .string ⟨u.toArray⟩] e)) w.heap.size [t, u] (by simp) (by simp [ht, hu]) (strs_two w t u e) (by simp)
  rw [isAny_two] at this
  exact this.mono fun e w' ⟨h1, h2⟩ => ⟨h1, ((Below.refl _ _).alloc (Nat.le_refl _) _).trans (h2.mono (by simp))⟩

theorem has_lt {C : Cx} {s : Pp.St} {q : Pp.Wd → Bool} (h : Pp.has C.ws s q = true) : s.i < C.tk.length ∧ s.e = 0 ∧ Pp.cur C.ws s = some (Pp.wd (nowT C.tk s)) := by
  unfold Pp.has Pp.cur at h
  by_cases he : s.e = 0
  · rw [if_pos he] at h
    have hl : s.i < C.tk.length := by
      rcases Nat.lt_or_ge s.i C.tk.length with h1 | h1
      · exact h1
      · rw [List.getElem?_eq_none (by simpa [Cx.ws] using h1)] at h; cases h
    refine ⟨hl, he, ?_⟩
    unfold Pp.cur nowT
    rw [if_pos he, if_pos he]
    simp [Cx.ws, hl]
  · rw [if_neg he] at h; cases h
theorem run_yes {α : Type} {C : Cx} {s : Pp.St} {q : Pp.Wd → Bool} (h : Pp.has C.ws s q = true) (y : Pp.Wd → Pp.Pr α) (n : Pp.Pr α) : (Pp.Pr.test q y n).run C.ws s = (y (Pp.wd (nowT C.tk s))).run C.ws s.adv := by
  rw [Pp.test_run, if_pos h, (has_lt h).2.2]
theorem run_no {α : Type} {C : Cx} {s : Pp.St} {q : Pp.Wd → Bool} (h : Pp.has C.ws s q = false) (y : Pp.Wd → Pp.Pr α) (n : Pp.Pr α) : (Pp.Pr.test q y n).run C.ws s = n.run C.ws s := by
  rw [Pp.test_run, if_neg (by rw [h]; exact Bool.false_ne_true)]
theorem peek_yes {α : Type} {C : Cx} {s : Pp.St} {q : Pp.Wd → Bool} (h : Pp.has C.ws s q = true) (y n : Pp.Pr α) : (Pp.Pr.peek q y n).run C.ws s = y.run C.ws s := by
  rw [Pp.peek_run, if_pos h]
theorem peek_no {α : Type} {C : Cx} {s : Pp.St} {q : Pp.Wd → Bool} (h : Pp.has C.ws s q = false) (y n : Pp.Pr α) : (Pp.Pr.peek q y n).run C.ws s = n.run C.ws s := by
  rw [Pp.peek_run, if_neg (by rw [h]; exact Bool.false_ne_true)]

set_option maxRecDepth 100000 in
set_option maxHeartbeats 1000000 in
theorem skip_any {w : World} {b : Nat} {C : Cx} {s : Pp.St} (h : Rd w b C s) (t : List UInt8) (ht : t ≠ []) :
    Calls Tryz.prog 35 #[.pointer (some ⟨b, 0, none⟩), .string ⟨t.toArray⟩] w fun e w' => e = .returned (.bool (Pp.has C.ws s (Pp.isW t))) ∧ Rd w' b C ((Pp.skip t).run C.ws s).2 ∧ Fr [b] w w' := by
  have hS := hide (sees_one h t ht 9)
  have H := hide h
  cases hb : Pp.has C.ws s (Pp.isW t) with
  | false =>
    rw [hb] at hS
    rw [Pp.skip, run_no hb]
    clear h hb
    go_enter Tryz.func35, Tryz.ntmps35
    go_wp2_with (go_at_call 16; refine hS.out.mono ?_; rintro e w1 ⟨rfl, hb1⟩)
    go_ret
    exact ⟨rfl, H.out.below hb1, Fr.ofBelow hb1⟩
  | true =>
    rw [hb] at hS
    rw [Pp.skip, run_yes hb]
    obtain ⟨hl, he, _⟩ := has_lt hb
    have hn := h.hn
    have hN := hide (fun w1 (hb1 : Below w.heap.size w w1) => (h.below hb1).step hl he)
    have hc := hide (fun w1 (hb1 : Below w.heap.size w w1) => And.intro (h.below hb1).c1 ((h.below hb1).fz 1))
    clear h hb
    obtain ⟨i, hi⟩ : ∃ i, i = s.i := ⟨_, rfl⟩
    rw [← hi] at hN hl hc
    have HI := hide hi
    clear hi
    go_enter Tryz.func35, Tryz.ntmps35
    go_wp2_with (go_at_call 16; refine hS.out.mono ?_; rintro e w1 ⟨rfl, hb1⟩; obtain ⟨k1, k2⟩ := hc.out w1 hb1)
    go_ret
    exact ⟨rfl, hN.out w1 hb1, (Fr.ofBelow hb1).setCell (.inl (by simp)) _⟩

theorem want_run (C : Cx) (s : Pp.St) (t : List UInt8) : ((Pp.want t).run C.ws s).2 = if Pp.has C.ws s (Pp.isW t) = true then s.adv else Pp.failS s 4 := by
  cases h : Pp.has C.ws s (Pp.isW t) with
  | true => rw [Pp.want, run_yes h]; rfl
  | false => rw [Pp.want, run_no h]; rfl
theorem skip_run (C : Cx) (s : Pp.St) (t : List UInt8) : (Pp.skip t).run C.ws s = if Pp.has C.ws s (Pp.isW t) = true then (true, s.adv) else (false, s) := by
  cases h : Pp.has C.ws s (Pp.isW t) with
  | true => rw [Pp.skip, run_yes h]; rfl
  | false => rw [Pp.skip, run_no h]; rfl

set_option maxRecDepth 100000 in
set_option maxHeartbeats 1000000 in
theorem want_any {w : World} {b : Nat} {C : Cx} {s : Pp.St} (h : Rd w b C s) (t : List UInt8) (ht : t ≠ []) :
    Calls Tryz.prog 38 #[.pointer (some ⟨b, 0, none⟩), .string ⟨t.toArray⟩] w fun e w' => e = .returned (.tuple #[]) ∧ Rd w' b C ((Pp.want t).run C.ws s).2 ∧ Fr [b] w w' := by
  have hS := hide (skip_any h t ht)
  rw [want_run]
  rw [skip_run] at hS
  clear h
  cases hb : Pp.has C.ws s (Pp.isW t) with
  | false =>
    rw [hb] at hS
    simp only [Bool.false_eq_true, if_false] at hS ⊢
    go_enter Tryz.func38, Tryz.ntmps38
    go_wp2_with (first | (go_at_call 35; refine hS.out.mono ?_; rintro e w1 ⟨rfl, hr1, hf1⟩; have HR := hide hr1; clear hr1) | (go_at_call 18; refine (fail_any HR.out 4 (by decide)).mono ?_; rintro e w2 ⟨rfl, hr2, hf2⟩))
    exact bodyPost_end (v := .tuple #[]) (by simp [results, Tryz.results38, go_sem]) rfl ⟨rfl, hr2, hf1.trans hf2⟩
  | true =>
    rw [hb] at hS
    simp only [if_true] at hS ⊢
    go_enter Tryz.func38, Tryz.ntmps38
    go_wp2_with (first | (go_at_call 35; refine hS.out.mono ?_; rintro e w1 ⟨rfl, hr1, hf1⟩; have HR := hide hr1; clear hr1))
    exact bodyPost_end (v := .tuple #[]) (by simp [results, Tryz.results38, go_sem]) rfl ⟨rfl, HR.out, hf1⟩

theorem first_run (C : Cx) (s : Pp.St) (t u : List UInt8) : (Pp.first t u).run C.ws s = if Pp.has C.ws s (Pp.isW t) = true then (true, s.adv) else (false, ((Pp.want u).run C.ws s).2) := by
  cases h : Pp.has C.ws s (Pp.isW t) with
  | true => rw [Pp.first, run_yes h]; rfl
  | false => rw [Pp.first, run_no h, Pp.run_bind]; rfl
set_option maxRecDepth 100000 in
set_option maxHeartbeats 1000000 in
theorem first_any {w : World} {b : Nat} {C : Cx} {s : Pp.St} (h : Rd w b C s) (t u : List UInt8) (ht : t ≠ []) (hu : u ≠ []) :
    Calls Tryz.prog 33 #[.pointer (some ⟨b, 0, none⟩), .string ⟨t.toArray⟩, .string ⟨u.toArray⟩] w fun e w' => e = .returned (.bool ((Pp.first t u).run C.ws s).1) ∧ Rd w' b C ((Pp.first t u).run C.ws s).2 ∧ Fr [b] w w' := by
  have hS := hide (skip_any h t ht)
  rw [first_run]
  rw [skip_run] at hS
  clear h
  cases hb : Pp.has C.ws s (Pp.isW t) with
  | false =>
    rw [hb] at hS
    simp only [Bool.false_eq_true, if_false] at hS ⊢
    go_enter Tryz.func33, Tryz.ntmps33
    go_wp2_with (first | (go_at_call 35; refine hS.out.mono ?_; rintro e w1 ⟨rfl, hr1, hf1⟩; have HR := hide hr1; clear hr1) | (go_at_call 38; refine (want_any HR.out u hu).mono ?_; rintro e w2 ⟨rfl, hr2, hf2⟩))
    go_ret
    exact ⟨rfl, hr2, hf1.trans hf2⟩
  | true =>
    rw [hb] at hS
    simp only [if_true] at hS ⊢
    go_enter Tryz.func33, Tryz.ntmps33
    go_wp2_with (first | (go_at_call 35; refine hS.out.mono ?_; rintro e w1 ⟨rfl, hr1, hf1⟩; have HR := hide hr1; clear hr1))
    go_ret
    exact ⟨rfl, HR.out, hf1⟩

set_option maxRecDepth 100000 in
set_option maxHeartbeats 1000000 in
theorem seesFresh_any {w : World} {b : Nat} {C : Cx} {s : Pp.St} (h : Rd w b C s) :
    Calls Tryz.prog 37 #[.pointer (some ⟨b, 0, none⟩)] w fun e w' => e = .returned (.bool (Pp.has C.ws s Pp.isFresh)) ∧ Below w.heap.size w w' := by
  have hr := hide (has_now C s Pp.isFresh rfl)
  have hN := hide (now_any h)
  have hT := hide (fun w' (hb : Below w.heap.size w w') => Kept_any (nowT C.tk s).text w' (h.below hb).tab)
  clear h
  obtain ⟨t, ht⟩ : ∃ t, t = nowT C.tk s := ⟨_, rfl⟩
  rw [← ht] at hN hT hr
  clear ht
  unfold tokV at hN
  have hr2 := hide (hr.out.trans (show Pp.isFresh (Pp.wd t) = (t.kind == 1 && !Pp.keptL t.text) from rfl))
  clear hr
  by_cases hk : t.kind = 1
  · rw [hk] at hN
    go_enter Tryz.func37, Tryz.ntmps37
    go_wp2_with (first | (go_at_call 32; refine hN.out.mono ?_; rintro e w1 ⟨rfl, hb1⟩) | (go_at_call 57; refine (hT.out _ (hb1.alloc hb1.size _)).mono ?_; rintro e w2 ⟨rfl, rfl⟩))
    go_ret
    refine ⟨?_, hb1.alloc hb1.size _⟩
    rw [hr2.out, hk]; rfl
  · have hk2 : (t.kind == 1) = false := by simp [hk]
    go_enter Tryz.func37, Tryz.ntmps37
    go_wp2_with (first | (go_at_call 32; refine hN.out.mono ?_; rintro e w1 ⟨rfl, hb1⟩))
    go_ret
    refine ⟨?_, hb1.alloc hb1.size _⟩
    rw [hr2.out, hk2]; rfl

theorem fresh_run (C : Cx) (s : Pp.St) : Pp.fresh.run C.ws s = if Pp.has C.ws s Pp.isFresh = true then ((nowT C.tk s).text, s.adv) else ([], Pp.failS s 4) := by
  cases h : Pp.has C.ws s Pp.isFresh with
  | true => rw [Pp.fresh, run_yes h]; rfl
  | false => rw [Pp.fresh, run_no h]; rfl
set_option maxRecDepth 100000 in
set_option maxHeartbeats 1000000 in
theorem fresh_any {w : World} {b : Nat} {C : Cx} {s : Pp.St} (h : Rd w b C s) :
    Calls Tryz.prog 34 #[.pointer (some ⟨b, 0, none⟩)] w fun e w' => e = .returned (.string ⟨(Pp.fresh.run C.ws s).1.toArray⟩) ∧ Rd w' b C (Pp.fresh.run C.ws s).2 ∧ Fr [b] w w' := by
  have hS := hide (seesFresh_any h)
  rw [fresh_run]
  cases hb : Pp.has C.ws s Pp.isFresh with
  | false =>
    rw [hb] at hS
    have hR := hide (fun w1 (hb1 : Below w.heap.size w w1) => fail_any (h.below hb1) 4 (by decide))
    simp only [Bool.false_eq_true, if_false]
    clear h hb
    go_enter Tryz.func34, Tryz.ntmps34
    go_wp2_with (first | (go_at_call 37; refine hS.out.mono ?_; rintro e w1 ⟨rfl, hb1⟩) | (go_at_call 18; refine (hR.out w1 hb1).mono ?_; rintro e w2 ⟨rfl, hr2, hf2⟩))
    go_ret
    exact ⟨rfl, hr2, (Fr.ofBelow hb1).trans hf2⟩
  | true =>
    rw [hb] at hS
    obtain ⟨hl, he, _⟩ := has_lt hb
    have hn := h.hn
    have hN := hide (fun w1 (hb1 : Below w.heap.size w w1) => now_any (h.below hb1))
    have hX := hide (fun w1 (hb1 : Below w.heap.size w w1) => (h.below hb1).step hl he)
    have hc := hide (fun w1 (hb1 : Below w.heap.size w w1) => And.intro (h.below hb1).c1 ((h.below hb1).fz 1))
    simp only [if_true]
    clear h hb
    obtain ⟨i, hi⟩ : ∃ i, i = s.i := ⟨_, rfl⟩
    rw [← hi] at hX hl hc
    have HI := hide hi
    clear hi
    obtain ⟨t, ht⟩ : ∃ t, t = nowT C.tk s := ⟨_, rfl⟩
    rw [← ht] at hN ⊢
    clear ht
    unfold tokV at hN
    have hfd := field_text
    go_enter Tryz.func34, Tryz.ntmps34
    go_wp2_with (first | (go_at_call 37; refine hS.out.mono ?_; rintro e w1 ⟨rfl, hb1⟩) | (go_at_call 32; refine (hN.out w1 hb1).mono ?_; rintro e w2 ⟨rfl, hb2⟩; have hb3 := hb1.trans (hb2.mono hb1.size); obtain ⟨k1, k2⟩ := hc.out w2 hb3))
    go_ret
    exact ⟨rfl, hX.out w2 hb3, (Fr.ofBelow hb3).setCell (.inl (by simp)) _⟩

theorem number_run (C : Cx) (s : Pp.St) (lo hi : Int) : (Pp.number lo hi).run C.ws s = if Pp.has C.ws s (Pp.isNum lo hi) = true then ((nowT C.tk s).num, s.adv) else (0, Pp.failS s 4) := by
  cases h : Pp.has C.ws s (Pp.isNum lo hi) with
  | true => rw [Pp.number, run_yes h]; rfl
  | false => rw [Pp.number, run_no h]; rfl
set_option maxRecDepth 100000 in
set_option maxHeartbeats 1000000 in
theorem number_any {w : World} {b : Nat} {C : Cx} {s : Pp.St} (h : Rd w b C s) (lo hi : Int) :
    Calls Tryz.prog 92 #[.pointer (some ⟨b, 0, none⟩), .int .i64 lo, .int .i64 hi] w fun e w' => e = .returned (.int .i64 ((Pp.number lo hi).run C.ws s).1) ∧ Rd w' b C ((Pp.number lo hi).run C.ws s).2 ∧ Fr [b] w w' := by
  have hN := hide (now_any h)
  have hr := hide (has_now C s (Pp.isNum lo hi) rfl)
  rw [number_run]
  cases hb : Pp.has C.ws s (Pp.isNum lo hi) with
  | false =>
    have hR := hide (fun w1 (hb1 : Below w.heap.size w w1) => fail_any (h.below hb1) 4 (by decide))
    simp only [Bool.false_eq_true, if_false]
    have hq : Pp.isNum lo hi (Pp.wd (nowT C.tk s)) = false := by rw [← hr.out, hb]
    clear h hb hr
    obtain ⟨t, ht⟩ : ∃ t, t = nowT C.tk s := ⟨_, rfl⟩
    rw [← ht] at hN hq
    clear ht
    unfold tokV at hN
    have hq' : ¬ t.kind = 2 ∨ t.num < lo ∨ hi < t.num := by
      have : ¬ (t.kind = 2 ∧ lo ≤ t.num ∧ t.num ≤ hi) := by
        intro hx
        simp [Pp.isNum, Pp.wd, hx.1, hx.2.1, hx.2.2] at hq
      omega
    clear hq
    go_enter Tryz.func92, Tryz.ntmps92
    by_cases hk : t.kind = 2
    · rw [hk] at hN
      by_cases hlo : t.num < lo
      · go_wp2_with (first | (go_at_call 32; refine hN.out.mono ?_; rintro e w1 ⟨rfl, hb1⟩) | (go_at_call 18; refine (hR.out _ (hb1.alloc hb1.size _)).mono ?_; rintro e w2 ⟨rfl, hr2, hf2⟩))
        go_ret
        exact ⟨rfl, hr2, ((Fr.ofBelow hb1).alloc _).trans hf2⟩
      · have hhi : hi < t.num := by omega
        go_wp2_with (first | (go_at_call 32; refine hN.out.mono ?_; rintro e w1 ⟨rfl, hb1⟩) | (go_at_call 18; refine (hR.out _ (hb1.alloc hb1.size _)).mono ?_; rintro e w2 ⟨rfl, hr2, hf2⟩))
        go_ret
        exact ⟨rfl, hr2, ((Fr.ofBelow hb1).alloc _).trans hf2⟩
    · have hk2 : (t.kind != 2) = true := by simp [hk]
      go_wp2_with (first | (go_at_call 32; refine hN.out.mono ?_; rintro e w1 ⟨rfl, hb1⟩) | (go_at_call 18; refine (hR.out _ (hb1.alloc hb1.size _)).mono ?_; rintro e w2 ⟨rfl, hr2, hf2⟩))
      go_ret
      exact ⟨rfl, hr2, ((Fr.ofBelow hb1).alloc _).trans hf2⟩
  | true =>
    obtain ⟨hl, he, _⟩ := has_lt hb
    have hn := h.hn
    have hX := hide (fun w1 (hb1 : Below w.heap.size w w1) => (h.below hb1).step hl he)
    have hc := hide (fun w1 (hb1 : Below w.heap.size w w1) => And.intro (h.below hb1).c1 ((h.below hb1).fz 1))
    have hlt := hide h.lt
    simp only [if_true]
    have hq : Pp.isNum lo hi (Pp.wd (nowT C.tk s)) = true := by rw [← hr.out, hb]
    clear h hb hr
    obtain ⟨i, hi⟩ : ∃ i, i = s.i := ⟨_, rfl⟩
    rw [← hi] at hX hl hc
    have HI := hide hi
    clear hi
    obtain ⟨t, ht⟩ : ∃ t, t = nowT C.tk s := ⟨_, rfl⟩
    rw [← ht] at hN hq ⊢
    clear ht
    unfold tokV at hN
    obtain ⟨h1, h2, h3⟩ : t.kind = 2 ∧ lo ≤ t.num ∧ t.num ≤ hi := by
      simp [Pp.isNum, Pp.wd] at hq; exact ⟨hq.1, of_decide_eq_true hq.2.1, of_decide_eq_true hq.2.2⟩
    clear hq
    rw [h1] at hN
    go_enter Tryz.func92, Tryz.ntmps92
    go_wp2_with (first | (go_at_call 32; refine hN.out.mono ?_; rintro e w1 ⟨rfl, hb1⟩; have hne : ¬ w1.heap.size = b := (by have h1 := hlt.out; have h2 := hb1.size; omega); obtain ⟨k1, k2⟩ := hc.out (w1.alloc (.cells #[.int .i64 2, .string ⟨t.text.toArray⟩, .int .i64 t.num, .int .i64 (t.pos : Int)] 85)) (hb1.alloc hb1.size _)))
    go_ret
    exact ⟨rfl, hX.out _ (hb1.alloc hb1.size _), ((Fr.ofBelow hb1).alloc _).setCell (.inl (by simp)) _⟩

def moreS (s : Pp.St) (bg : Bool) (n most : Nat) : Pp.St := if bg = true ∧ most ≤ n then Pp.failS s 2 else s
set_option maxRecDepth 100000 in
set_option maxHeartbeats 1000000 in
theorem more_any {w : World} {b : Nat} {C : Cx} {s : Pp.St} (h : Rd w b C s) (bg : Bool) (n most : Nat) :
    Calls Tryz.prog 15 #[.pointer (some ⟨b, 0, none⟩), .bool bg, .int .i64 (n : Int), .int .i64 (most : Int)] w fun e w' => e = .returned (.bool (bg && decide (n < most))) ∧ Rd w' b C (moreS s bg n most) ∧ Fr [b] w w' := by
  have H := hide h
  have hF := hide (fail_any h 2 (by decide))
  clear h
  cases bg with
  | false =>
    go_enter Tryz.func15, Tryz.ntmps15
    go_wp2
    go_ret
    exact ⟨rfl, by simp [moreS, H.out], Fr.refl _ _⟩
  | true =>
    by_cases hm : n < most
    · go_enter Tryz.func15, Tryz.ntmps15
      go_wp2
      go_ret
      exact ⟨by simp [hm], by simp [moreS, show ¬ most ≤ n by omega, H.out], Fr.refl _ _⟩
    · go_enter Tryz.func15, Tryz.ntmps15
      go_wp2_with (go_at_call 18; refine hF.out.mono ?_; rintro e w2 ⟨rfl, hr2, hf2⟩)
      go_ret
      exact ⟨by simp [hm], by rw [moreS, if_pos ⟨rfl, by omega⟩]; exact hr2, hf2⟩

end Go.Proofs.YtdgfidaopkcjoaaGreatDoor

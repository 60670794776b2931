/- What holds of every tree of the program's text: behind a fault nothing moves; places only rise; only words up to the last place matter; words ahead do not matter. No program is named here. Two lists of words one behind the other, read by the tree of a program. No program is named here. Words that are cut off, read by the tree of a program. No program is named here. A program's words, and that the tree reads them as that program. No program is named here. What is read without a fault is a program whose words can be written. No program is named here. -/
import Derived.Test.YtildjihgklgibaaDoorPp
namespace Go.Proofs.YtildjihgklgibaaDoor
namespace Pp
set_option linter.unusedVariables false
set_option linter.unusedSimpArgs false

theorem has_off (C : List Wd) (s : St) (q : Wd → Bool) (h : s.e ≠ 0) : has C s q = false := by simp [has, cur, h]
theorem failS_off (s : St) (k : Int) (h : s.e ≠ 0) : failS s k = s := by simp [failS, h]
theorem failS_i (s : St) (k : Int) : (failS s k).i = s.i := by unfold failS; split <;> rfl
theorem run_test {α : Type} (C : List Wd) (q : Wd → Bool) (y : Wd → Pr α) (n : Pr α) (s : St) (t : Wd) (h : has C s q = true) (ht : cur C s = some t) : (Pr.test q y n).run C s = (y t).run C s.adv := by
  rw [test_run, if_pos h, ht]
theorem run_test_no {α : Type} (C : List Wd) (q : Wd → Bool) (y : Wd → Pr α) (n : Pr α) (s : St) (h : has C s q = false) : (Pr.test q y n).run C s = n.run C s := by
  rw [test_run, if_neg (by rw [h]; exact Bool.false_ne_true)]
theorem run_peek_yes {α : Type} {C : List Wd} {q : Wd → Bool} {s : St} (h : has C s q = true) (y n : Pr α) : (Pr.peek q y n).run C s = y.run C s := by rw [peek_run, if_pos h]
theorem run_peek_no {α : Type} {C : List Wd} {q : Wd → Bool} {s : St} (h : has C s q = false) (y n : Pr α) : (Pr.peek q y n).run C s = n.run C s := by rw [peek_run, if_neg (by rw [h]; exact Bool.false_ne_true)]
theorem has_cur {C : List Wd} {s : St} {q : Wd → Bool} (h : has C s q = true) : ∃ t, cur C s = some t ∧ q t = true ∧ s.e = 0 := by
  unfold has at h
  split at h
  · rename_i t ht
    refine ⟨t, ht, h, ?_⟩
    unfold cur at ht
    split at ht
    · assumption
    · cases ht
  · cases h
theorem has_same {C C' : List Wd} {s : St} (h : C'[s.i]? = C[s.i]?) (q : Wd → Bool) : has C' s q = has C s q := by unfold has cur; rw [h]
theorem cur_same {C C' : List Wd} {s : St} (h : C'[s.i]? = C[s.i]?) : cur C' s = cur C s := by unfold cur; rw [h]
def St.up (n : Nat) (s : St) : St := ⟨n + s.i, s.e⟩
theorem has_shift (A B : List Wd) (s : St) (q : Wd → Bool) : has (A ++ B) (s.up A.length) q = has B s q := by
  unfold has cur St.up
  simp only
  rw [List.getElem?_append_right (by omega), Nat.add_sub_cancel_left]
theorem cur_shift (A B : List Wd) (s : St) : cur (A ++ B) (s.up A.length) = cur B s := by
  unfold cur St.up
  simp only
  rw [List.getElem?_append_right (by omega), Nat.add_sub_cancel_left]
theorem up_adv (n : Nat) (s : St) : (s.up n).adv = s.adv.up n := rfl
theorem up_fail (n : Nat) (s : St) (k : Int) : failS (s.up n) k = (failS s k).up n := by
  unfold failS St.up
  split <;> rfl

structure Law {α : Type} (p : Pr α) : Prop where
  stuck : ∀ C s, s.e ≠ 0 → (p.run C s).2 = s
  mono : ∀ C s, s.i ≤ (p.run C s).2.i
  loc : ∀ C C' s, (∀ j, s.i ≤ j → j ≤ (p.run C s).2.i → C'[j]? = C[j]?) → p.run C' s = p.run C s
  shift : ∀ A B s, p.run (A ++ B) (s.up A.length) = ((p.run B s).1, (p.run B s).2.up A.length)
section
variable {α β : Type}
theorem Law.ret (a : α) : Law (Pr.ret a) := ⟨fun _ _ _ => rfl, fun _ _ => Nat.le_refl _, fun _ _ _ _ => rfl, fun _ _ _ => rfl⟩
theorem Law.fail {p : Pr α} (h : Law p) (k : Int) : Law (Pr.fail k p) :=
  ⟨fun C s hs => by rw [run_fail, failS_off s k hs]; exact h.stuck C s hs,
   fun C s => by rw [run_fail]; have := h.mono C (failS s k); rw [failS_i] at this; exact this,
   fun C C' s hs => by rw [run_fail] at hs ⊢; rw [run_fail]; exact h.loc C C' (failS s k) (fun j hj hj2 => hs j (by rw [failS_i] at hj; exact hj) hj2),
   fun A B s => by rw [run_fail, run_fail, up_fail]; exact h.shift A B (failS s k)⟩
theorem Law.peek {y n : Pr α} (hy : Law y) (hn : Law n) (q : Wd → Bool) : Law (Pr.peek q y n) where
  stuck C s hs := by rw [run_peek_no (has_off C s q hs)]; exact hn.stuck C s hs
  mono C s := by
    cases h : has C s q with
    | true => rw [run_peek_yes h]; exact hy.mono C s
    | false => rw [run_peek_no h]; exact hn.mono C s
  loc C C' s hs := by
    have h0 : C'[s.i]? = C[s.i]? := hs s.i (Nat.le_refl _) (by
      cases h : has C s q with
      | true => rw [run_peek_yes h]; exact hy.mono C s
      | false => rw [run_peek_no h]; exact hn.mono C s)
    cases h : has C s q with
    | true =>
      rw [run_peek_yes h] at hs ⊢
      rw [run_peek_yes (by rw [has_same h0]; exact h)]
      exact hy.loc C C' s hs
    | false =>
      rw [run_peek_no h] at hs ⊢
      rw [run_peek_no (by rw [has_same h0]; exact h)]
      exact hn.loc C C' s hs
  shift A B s := by
    cases h : has B s q with
    | true => rw [run_peek_yes h, run_peek_yes (by rw [has_shift]; exact h)]; exact hy.shift A B s
    | false => rw [run_peek_no h, run_peek_no (by rw [has_shift]; exact h)]; exact hn.shift A B s
theorem Law.test {y : Wd → Pr α} {n : Pr α} (hy : ∀ t, Law (y t)) (hn : Law n) (q : Wd → Bool) : Law (Pr.test q y n) where
  stuck C s hs := by rw [run_test_no _ _ _ _ _ (has_off C s q hs)]; exact hn.stuck C s hs
  mono C s := by
    cases h : has C s q with
    | true =>
      obtain ⟨t, ht, _, _⟩ := has_cur h
      rw [run_test _ _ _ _ _ t h ht]
      exact Nat.le_trans (Nat.le_succ _) ((hy t).mono C s.adv)
    | false => rw [run_test_no _ _ _ _ _ h]; exact hn.mono C s
  loc C C' s hs := by
    have h0 : C'[s.i]? = C[s.i]? := hs s.i (Nat.le_refl _) (by
      cases h : has C s q with
      | true =>
        obtain ⟨t, ht, _, _⟩ := has_cur h
        rw [run_test _ _ _ _ _ t h ht]
        exact Nat.le_trans (Nat.le_succ _) ((hy t).mono C s.adv)
      | false => rw [run_test_no _ _ _ _ _ h]; exact hn.mono C s)
    cases h : has C s q with
    | true =>
      obtain ⟨t, ht, _, _⟩ := has_cur h
      rw [run_test C q y n s t h ht] at hs ⊢
      rw [run_test C' q y n s t (by rw [has_same h0]; exact h) (by rw [cur_same h0]; exact ht)]
      exact (hy t).loc C C' s.adv (fun j hj hj2 => hs j (Nat.le_trans (Nat.le_succ _) hj) hj2)
    | false =>
      rw [run_test_no C q y n s h] at hs ⊢
      rw [run_test_no C' q y n s (by rw [has_same h0]; exact h)]
      exact hn.loc C C' s hs
  shift A B s := by
    cases h : has B s q with
    | true =>
      obtain ⟨t, ht, _, _⟩ := has_cur h
      rw [run_test B q y n s t h ht, run_test (A ++ B) q y n _ t (by rw [has_shift]; exact h) (by rw [cur_shift]; exact ht), up_adv]
      exact (hy t).shift A B s.adv
    | false =>
      rw [run_test_no B q y n s h, run_test_no (A ++ B) q y n _ (by rw [has_shift]; exact h)]
      exact hn.shift A B s
theorem Law.bind {p : Pr α} {f : α → Pr β} (hp : Law p) (hf : ∀ a, Law (f a)) : Law (p.bind f) where
  stuck C s hs := by
    have h1 := hp.stuck C s hs
    rw [run_bind, h1]; exact (hf _).stuck C s hs
  mono C s := by rw [run_bind]; exact Nat.le_trans (hp.mono C s) ((hf _).mono C _)
  loc C C' s hs := by
    rw [run_bind] at hs ⊢
    have h1 : p.run C' s = p.run C s := hp.loc C C' s (fun j hj hj2 => hs j hj (Nat.le_trans hj2 ((hf _).mono C _)))
    rw [run_bind, h1]
    exact (hf _).loc C C' _ (fun j hj hj2 => hs j (Nat.le_trans (hp.mono C s) hj) hj2)
  shift A B s := by
    rw [run_bind, hp.shift A B s, run_bind]
    exact (hf _).shift A B _
theorem bind_assoc {γ : Type} (f : α → Pr β) (g : β → Pr γ) (p : Pr α) : (p.bind f).bind g = p.bind fun a => (f a).bind g := rfl
end
theorem law_want (t : Bs) : Law (want t) := Law.test (fun _ => Law.ret _) (Law.fail (Law.ret _) _) _
theorem law_skip (t : Bs) : Law (skip t) := Law.test (fun _ => Law.ret _) (Law.ret _) _
theorem law_first (a b : Bs) : Law (first a b) := Law.test (fun _ => Law.ret _) (Law.bind (law_want b) fun _ => Law.ret _) _
theorem law_fresh : Law fresh := Law.test (fun _ => Law.ret _) (Law.fail (Law.ret _) _) _
theorem law_number (lo hi : Int) : Law (number lo hi) := Law.test (fun _ => Law.ret _) (Law.fail (Law.ret _) _) _
theorem law_rowOf (a b : Int) (n : Bs) : Law (rowOf a b n) := Law.test (fun _ => Law.bind (law_want _) fun _ => Law.ret _) (Law.ret _) _
theorem law_typed : Law typed := Law.test (fun _ => Law.ret _) (Law.test (fun _ => law_rowOf _ _ _) (Law.bind law_fresh fun _ => law_rowOf _ _ _) _) _
theorem law_listedGo {α : Type} {q : Wd → Bool} {item : Pr α} (hi : Law item) : ∀ (n : Nat) (acc : List α), Law (listedGo q item n acc)
  | 0, acc => Law.test (fun _ => Law.peek (Law.fail (Law.ret _) _) (Law.fail (Law.ret _) _) _) (Law.ret _) _
  | n + 1, acc => Law.test (fun _ => Law.peek (Law.bind hi fun a => law_listedGo hi n _) (Law.fail (Law.ret _) _) _) (Law.ret _) _
theorem law_listed {α : Type} {q : Wd → Bool} {item : Pr α} (hi : Law item) (m : Nat) : Law (listed q item m) := Law.bind hi fun _ => law_listedGo hi _ _
theorem law_many {α : Type} {q : Wd → Bool} {item : Pr α} (hi : Law item) : ∀ (n : Nat) (acc : List α), Law (many q item n acc)
  | 0, acc => Law.peek (Law.fail (Law.ret _) _) (Law.ret _) _
  | n + 1, acc => Law.peek (Law.bind hi fun a => law_many hi n _) (Law.ret _) _
theorem law_field : Law field := Law.bind (law_first _ _) fun _ => Law.bind law_fresh fun _ => Law.bind (law_want _) fun _ => Law.bind law_typed fun _ => Law.bind (law_want _) fun _ => Law.ret _
theorem law_args (op : Nat) : Law (args op) := by
  unfold args
  split
  · exact Law.bind (law_number _ _) fun _ => Law.ret _
  split
  · exact Law.bind (law_number _ _) fun _ => Law.ret _
  split
  · exact Law.bind (law_number _ _) fun _ => Law.ret _
  split
  · exact Law.bind law_fresh fun _ => Law.ret _
  split
  · exact Law.bind law_fresh fun _ => Law.bind law_fresh fun _ => Law.ret _
  · exact Law.ret _
theorem law_instrOf (op : Nat) : Law (instrOf op) := Law.bind (law_args op) fun _ => Law.bind (law_want _) fun _ => Law.ret _
theorem law_instr : Law instr := Law.test (fun _ => law_instrOf _) (Law.ret _) _
theorem law_catch : Law catch_ := Law.bind (law_want _) fun _ => Law.bind law_fresh fun _ => Law.bind (law_number _ _) fun _ => Law.bind (law_number _ _) fun _ => Law.bind (law_number _ _) fun _ => Law.bind (law_want _) fun _ => Law.ret _
theorem law_body : Law body := Law.bind (law_want _) fun _ => Law.bind (law_number _ _) fun _ => Law.bind (law_want _) fun _ => Law.bind (law_many law_instr _ _) fun _ => Law.bind (law_many law_catch _ _) fun _ => Law.bind (law_want _) fun _ => Law.ret _
theorem law_params : Law params := Law.peek (Law.ret _) (law_listed law_typed _) _
theorem law_bodyOr (ab : Bool) : Law (bodyOr ab) := by unfold bodyOr; split; exact Law.ret _; exact law_body
theorem law_method : Law method := Law.bind (law_first _ _) fun _ => Law.bind law_fresh fun _ => Law.bind (law_want _) fun _ => Law.bind law_params fun _ => Law.bind (law_want _) fun _ => Law.bind law_typed fun _ => Law.bind (law_skip _) fun _ => Law.bind (law_bodyOr _) fun _ => Law.ret _
theorem law_members : ∀ (n : Nat) (fs : List Fld) (ms : List Mth), Law (members n fs ms)
  | 0, fs, ms => Law.peek (Law.fail (Law.ret _) _) (Law.peek (Law.fail (Law.ret _) _) (Law.ret _) _) _
  | n + 1, fs, ms => by
    rw [members]
    refine Law.peek ?_ (Law.peek ?_ (Law.ret _) _) _
    · split
      · exact Law.fail (Law.ret _) _
      · exact Law.bind law_field fun _ => law_members n _ _
    · split
      · exact Law.fail (Law.ret _) _
      · exact Law.bind law_method fun _ => law_members n _ _
theorem law_superOr (b : Bool) : Law (superOr b) := by unfold superOr; split; exact Law.ret _; exact Law.test (fun _ => law_fresh) (Law.ret _) _
theorem law_ifacesOf (t : Bs) : Law (ifacesOf t) := Law.test (fun _ => law_listed law_fresh _) (Law.ret _) _
/-- A class but for the sign that ends it. -/
def clsOpen : Pr Cls := (first wInterface wClass).bind fun ifc => fresh.bind fun n => (superOr ifc).bind fun sup => (ifacesOf (if ifc = true then wExtends else wImplements)).bind fun ifs =>
  (want wLB).bind fun _ => (members 12 [] []).bind fun m => .ret ⟨n, ifc, sup, ifs, m.1, m.2⟩
theorem law_clsOpen : Law clsOpen := Law.bind (law_first _ _) fun _ => Law.bind law_fresh fun _ => Law.bind (law_superOr _) fun _ => Law.bind (law_ifacesOf _) fun _ => Law.bind (law_want _) fun _ => Law.bind (law_members _ _ _) fun _ => Law.ret _
theorem cls_open : cls = clsOpen.bind fun c => (want wRB).bind fun _ => .ret c := rfl
theorem law_cls : Law cls := by rw [cls_open]; exact Law.bind law_clsOpen fun _ => Law.bind (law_want _) fun _ => Law.ret _
theorem law_classes : Law classes := law_many law_cls _ _
theorem law_progP : Law progP := Law.bind law_classes fun _ => Law.peek (Law.fail (Law.ret _) _) (Law.ret _) _

end Pp
end Go.Proofs.YtildjihgklgibaaDoor

namespace Go.Proofs.YtildjihgklgibaaDoor
namespace Pp
set_option linter.unusedVariables false
set_option linter.unusedSimpArgs false

theorem want_e (C : List Wd) (s : St) (t : Bs) (h : ((want t).run C s).2.e = 0) : has C s (isW t) = true ∧ ((want t).run C s).2 = s.adv := by
  cases hh : has C s (isW t) with
  | true =>
    obtain ⟨x, hx, _, _⟩ := has_cur hh
    refine ⟨rfl, ?_⟩
    rw [want, run_test _ _ _ _ _ x hh hx]; rfl
  | false =>
    exfalso
    rw [want, run_test_no _ _ _ _ _ hh] at h
    have h2 : (failS s 4).e = 0 := h
    unfold failS at h2
    split at h2
    · cases h2
    · contradiction
theorem has_lt' {C : List Wd} {s : St} {q : Wd → Bool} (h : has C s q = true) : s.i < C.length := by
  obtain ⟨t, ht, _, he⟩ := has_cur h
  unfold cur at ht
  rw [if_pos he] at ht
  rcases Nat.lt_or_ge s.i C.length with h1 | h1
  · exact h1
  · rw [List.getElem?_eq_none h1] at ht; cases ht
theorem want_yes (C : List Wd) (s : St) (t : Bs) (h : has C s (isW t) = true) : (want t).run C s = ((), s.adv) := by
  obtain ⟨x, hx, _, _⟩ := has_cur h
  rw [want, run_test _ _ _ _ _ x h hx]; rfl
theorem cls_run (C : List Wd) (s : St) : cls.run C s = ((clsOpen.run C s).1, ((want wRB).run C (clsOpen.run C s).2).2) := by
  rw [cls_open, run_bind, run_bind]; rfl
/-- A class that was read without a fault is read so, whatever stands behind it. -/
theorem cls_closed (A B : List Wd) (s : St) (h : (cls.run A s).2.e = 0) : cls.run (A ++ B) s = cls.run A s ∧ (cls.run A s).2.i ≤ A.length := by
  rw [cls_run] at h
  obtain ⟨h1, h2⟩ := want_e A _ wRB h
  have h3 := has_lt' h1
  have e1 : clsOpen.run (A ++ B) s = clsOpen.run A s := law_clsOpen.loc A (A ++ B) s (fun j hj hj2 => List.getElem?_append_left (by omega))
  have h4 : has (A ++ B) (clsOpen.run A s).2 (isW wRB) = true := by rw [has_same (C := A) (List.getElem?_append_left h3)]; exact h1
  refine ⟨?_, ?_⟩
  · rw [cls_run, cls_run, e1, want_yes _ _ _ h4, want_yes _ _ _ h1]
  · rw [cls_run, h2]; exact h3

theorem many_run_no {α : Type} {C : List Wd} {s : St} {q : Wd → Bool} (h : has C s q = false) (item : Pr α) (k : Nat) (acc : List α) : (many q item k acc).run C s = (acc, s) := by
  cases k with
  | zero => rw [many, run_peek_no h]; rfl
  | succ k => rw [many, run_peek_no h]; rfl
theorem many_run_full {α : Type} {C : List Wd} {s : St} {q : Wd → Bool} (h : has C s q = true) (item : Pr α) (acc : List α) : (many q item 0 acc).run C s = (acc, failS s 2) := by
  rw [many, run_peek_yes h]; rfl
theorem many_run_yes {α : Type} {C : List Wd} {s : St} {q : Wd → Bool} (h : has C s q = true) (item : Pr α) (k : Nat) (acc : List α) : (many q item (k + 1) acc).run C s = (many q item k (acc ++ [(item.run C s).1])).run C (item.run C s).2 := by
  rw [many, run_peek_yes h, run_bind]
theorem fail_two (s : St) (h : (failS s 2).e = 0) : False := by
  unfold failS at h
  split at h
  · cases h
  · contradiction

/-- Of A's words and B's: what is read of A's is read first. -/
theorem many_pre (A B : List Wd) (q : Wd → Bool) : ∀ (k : Nat) (acc : List Cls) (s : St), ((many q cls k acc).run A s).2.e = 0 →
    ∃ k', acc.length + k = ((many q cls k acc).run A s).1.length + k' ∧ (((many q cls k acc).run A s).2.i = A.length → (many q cls k acc).run (A ++ B) s = (many q cls k' ((many q cls k acc).run A s).1).run (A ++ B) ((many q cls k acc).run A s).2)
  | 0, acc, s, h => by
    cases hh : has A s q with
    | true => rw [many_run_full hh] at h; exact absurd h (fun h => fail_two s h)
    | false => rw [many_run_no hh]; exact ⟨0, rfl, fun _ => rfl⟩
  | k + 1, acc, s, h => by
    cases hh : has A s q with
    | false => rw [many_run_no hh]; exact ⟨k + 1, rfl, fun _ => rfl⟩
    | true =>
      rw [many_run_yes hh] at h ⊢
      have he : (cls.run A s).2.e = 0 := by
        rcases Decidable.em ((cls.run A s).2.e = 0) with h1 | h1
        · exact h1
        · rw [(law_many law_cls _ _).stuck A _ h1] at h; exact absurd h h1
      obtain ⟨c1, c2⟩ := cls_closed A B s he
      have h3 : has (A ++ B) s q = true := by rw [has_same (C := A) (List.getElem?_append_left (has_lt' hh))]; exact hh
      obtain ⟨k', e1, e2⟩ := many_pre A B q k (acc ++ [(cls.run A s).1]) (cls.run A s).2 h
      refine ⟨k', by rw [← e1]; simp; omega, fun hi => ?_⟩
      rw [many_run_yes h3, c1]
      exact e2 hi

/-- Another list ahead, another bound: the same items, as long as there is room. -/
theorem many_more (B : List Wd) (q : Wd → Bool) (item : Pr Cls) : ∀ (k : Nat) (acc : List Cls) (s : St), ((many q item k acc).run B s).2.e = 0 →
    ∃ ds, ((many q item k acc).run B s).1 = acc ++ ds ∧ ∀ (k2 : Nat) (acc2 : List Cls), (ds.length ≤ k2 → (many q item k2 acc2).run B s = (acc2 ++ ds, ((many q item k acc).run B s).2)) ∧ (k2 < ds.length → ((many q item k2 acc2).run B s).2.e = 2)
  | 0, acc, s, h => by
    cases hh : has B s q with
    | true => rw [many_run_full hh] at h; exact absurd h (fun h => fail_two s h)
    | false => rw [many_run_no hh]; exact ⟨[], by simp, fun k2 acc2 => ⟨fun _ => by rw [many_run_no hh]; simp, fun h => by simp at h⟩⟩
  | k + 1, acc, s, h => by
    cases hh : has B s q with
    | false => rw [many_run_no hh]; exact ⟨[], by simp, fun k2 acc2 => ⟨fun _ => by rw [many_run_no hh]; simp, fun h => by simp at h⟩⟩
    | true =>
      rw [many_run_yes hh] at h ⊢
      obtain ⟨ds, e1, e2⟩ := many_more B q item k (acc ++ [(item.run B s).1]) (item.run B s).2 h
      refine ⟨(item.run B s).1 :: ds, by rw [e1]; simp, fun k2 acc2 => ⟨fun hl => ?_, fun hl => ?_⟩⟩
      · cases k2 with
        | zero => simp at hl
        | succ k2 =>
          rw [many_run_yes hh, (e2 k2 (acc2 ++ [(item.run B s).1])).1 (by simp at hl; omega)]
          simp
      · cases k2 with
        | zero =>
          rw [many_run_full hh]
          obtain ⟨_, _, _, he⟩ := has_cur hh
          simp [failS, he]
        | succ k2 =>
          rw [many_run_yes hh]
          exact (e2 k2 _).2 (by simp at hl; omega)

/-- Two programs' words one behind the other. -/
theorem classes_join (A B : List Wd) (cs ds : List Cls) (hA : classes.run A ⟨0, 0⟩ = (cs, ⟨A.length, 0⟩)) (hB : classes.run B ⟨0, 0⟩ = (ds, ⟨B.length, 0⟩)) :
    (cs.length + ds.length ≤ 10 → classes.run (A ++ B) ⟨0, 0⟩ = (cs ++ ds, ⟨A.length + B.length, 0⟩)) ∧ (10 < cs.length + ds.length → (classes.run (A ++ B) ⟨0, 0⟩).2.e = 2) := by
  unfold classes at hA hB ⊢
  obtain ⟨k', e1, e2⟩ := many_pre A B (isW2 wClass wInterface) 10 [] ⟨0, 0⟩ (by rw [hA])
  rw [hA] at e1 e2
  have e3 := e2 rfl
  obtain ⟨ds', f1, f2⟩ := many_more B (isW2 wClass wInterface) cls 10 [] ⟨0, 0⟩ (by rw [hB])
  rw [hB] at f1 f2
  have hd : ds' = ds := by simpa using f1.symm
  subst hd
  have hs : (⟨A.length, 0⟩ : St) = (⟨0, 0⟩ : St).up A.length := by simp [St.up]
  have e4 : (many (isW2 wClass wInterface) cls k' cs).run (A ++ B) ⟨A.length, 0⟩ = (((many (isW2 wClass wInterface) cls k' cs).run B ⟨0, 0⟩).1, ((many (isW2 wClass wInterface) cls k' cs).run B ⟨0, 0⟩).2.up A.length) := by
    rw [hs]; exact (law_many law_cls _ _).shift A B ⟨0, 0⟩
  have hk : 10 = cs.length + k' := by simpa using e1
  constructor
  · intro hl
    rw [e3]
    show (many (isW2 wClass wInterface) cls k' cs).run (A ++ B) ⟨A.length, 0⟩ = _
    rw [e4, (f2 k' cs).1 (by omega)]
    rfl
  · intro hl
    rw [e3]
    show ((many (isW2 wClass wInterface) cls k' cs).run (A ++ B) ⟨A.length, 0⟩).2.e = 2
    rw [e4]
    exact (f2 k' cs).2 (by omega)

end Pp
end Go.Proofs.YtildjihgklgibaaDoor

namespace Go.Proofs.YtildjihgklgibaaDoor
namespace Pp
set_option linter.unusedVariables false
set_option linter.unusedSimpArgs false

theorem has_end (P : List Wd) (s : St) (q : Wd → Bool) (h : s.i = P.length) : has P s q = false := by
  unfold has cur
  split
  · rename_i t ht
    split at ht
    · rw [List.getElem?_eq_none (by omega)] at ht; cases ht
    · cases ht
  · rfl
/-- At the end of the words nothing but fault 4 can come up; cut off: the same, or it stands at the end. -/
structure Good {α : Type} (p : Pr α) : Prop where
  law : Law p
  fin : ∀ (P : List Wd) (s : St), s.e = 0 → s.i = P.length → (p.run P s).2.i = P.length ∧ ((p.run P s).2.e = 0 ∨ (p.run P s).2.e = 4)
  cut : ∀ (P R : List Wd) (s : St), s.e = 0 → s.i ≤ P.length → (p.run (P ++ R) s).2.e = 0 →
    (p.run P s = p.run (P ++ R) s ∧ (p.run (P ++ R) s).2.i ≤ P.length) ∨ ((p.run P s).2.i = P.length ∧ ((p.run P s).2.e = 0 ∨ (p.run P s).2.e = 4))
section
variable {α β : Type}
theorem Good.ret (a : α) : Good (Pr.ret a) := ⟨Law.ret a, fun P s he hi => ⟨hi, .inl he⟩, fun P R s he hi h => .inl ⟨rfl, hi⟩⟩
theorem fail_run {p : Pr α} (hp : Law p) {k : Int} (hk : k ≠ 0) (C : List Wd) (s : St) (he : s.e = 0) : ((Pr.fail k p).run C s).2 = ⟨s.i, k⟩ := by
  rw [run_fail, show failS s k = ⟨s.i, k⟩ from by simp [failS, he], hp.stuck _ _ hk]
theorem Good.fail {p : Pr α} (hp : Law p) : Good (Pr.fail 4 p) :=
  ⟨Law.fail hp 4, fun P s he hi => by rw [fail_run hp (by decide) P s he]; exact ⟨hi, .inr rfl⟩,
   fun P R s he hi h => by rw [fail_run hp (by decide) _ s he] at h; cases h⟩
theorem Good.test {y : Wd → Pr α} {n : Pr α} (hy : ∀ t, Good (y t)) (hn : Good n) (q : Wd → Bool) : Good (Pr.test q y n) := by
  have hfin : ∀ (P : List Wd) (s : St), s.e = 0 → s.i = P.length → ((Pr.test q y n).run P s).2.i = P.length ∧ (((Pr.test q y n).run P s).2.e = 0 ∨ ((Pr.test q y n).run P s).2.e = 4) := fun P s he hi => by
    rw [run_test_no _ _ _ _ _ (has_end P s q hi)]; exact hn.fin P s he hi
  refine ⟨Law.test (fun t => (hy t).law) hn.law q, hfin, fun P R s he hi h => ?_⟩
  rcases Nat.lt_or_ge s.i P.length with hl | hl
  · have h0 : P[s.i]? = (P ++ R)[s.i]? := (List.getElem?_append_left hl).symm
    cases hh : has (P ++ R) s q with
    | true =>
      obtain ⟨t, ht, _, _⟩ := has_cur hh
      rw [run_test (P ++ R) q y n s t hh ht] at h ⊢
      rw [run_test P q y n s t (by rw [has_same h0]; exact hh) (by rw [cur_same h0]; exact ht)]
      exact (hy t).cut P R s.adv he hl h
    | false =>
      rw [run_test_no (P ++ R) q y n s hh] at h ⊢
      rw [run_test_no P q y n s (by rw [has_same h0]; exact hh)]
      exact hn.cut P R s he hi h
  · exact .inr (hfin P s he (by omega))
theorem Good.peek {y n : Pr α} (hy : Good y) (hn : Good n) (q : Wd → Bool) : Good (Pr.peek q y n) := by
  have hfin : ∀ (P : List Wd) (s : St), s.e = 0 → s.i = P.length → ((Pr.peek q y n).run P s).2.i = P.length ∧ (((Pr.peek q y n).run P s).2.e = 0 ∨ ((Pr.peek q y n).run P s).2.e = 4) := fun P s he hi => by
    rw [run_peek_no (has_end P s q hi)]; exact hn.fin P s he hi
  refine ⟨Law.peek hy.law hn.law q, hfin, fun P R s he hi h => ?_⟩
  rcases Nat.lt_or_ge s.i P.length with hl | hl
  · have h0 : P[s.i]? = (P ++ R)[s.i]? := (List.getElem?_append_left hl).symm
    cases hh : has (P ++ R) s q with
    | true =>
      rw [run_peek_yes hh] at h ⊢
      rw [run_peek_yes (by rw [has_same h0]; exact hh)]
      exact hy.cut P R s he hi h
    | false =>
      rw [run_peek_no hh] at h ⊢
      rw [run_peek_no (by rw [has_same h0]; exact hh)]
      exact hn.cut P R s he hi h
  · exact .inr (hfin P s he (by omega))
theorem Good.peekF {p n : Pr α} (hp : Law p) {k : Int} (hk : k ≠ 0) (hn : Good n) (q : Wd → Bool) : Good (Pr.peek q (Pr.fail k p) n) := by
  have hfin : ∀ (P : List Wd) (s : St), s.e = 0 → s.i = P.length → ((Pr.peek q (Pr.fail k p) n).run P s).2.i = P.length ∧ (((Pr.peek q (Pr.fail k p) n).run P s).2.e = 0 ∨ ((Pr.peek q (Pr.fail k p) n).run P s).2.e = 4) := fun P s he hi => by
    rw [run_peek_no (has_end P s q hi)]; exact hn.fin P s he hi
  refine ⟨Law.peek (Law.fail hp k) hn.law q, hfin, fun P R s he hi h => ?_⟩
  rcases Nat.lt_or_ge s.i P.length with hl | hl
  · have h0 : P[s.i]? = (P ++ R)[s.i]? := (List.getElem?_append_left hl).symm
    cases hh : has (P ++ R) s q with
    | true =>
      rw [run_peek_yes hh, fail_run hp hk _ s he] at h
      exact absurd h hk
    | false =>
      rw [run_peek_no hh] at h ⊢
      rw [run_peek_no (by rw [has_same h0]; exact hh)]
      exact hn.cut P R s he hi h
  · exact .inr (hfin P s he (by omega))
theorem Good.bind {p : Pr α} {f : α → Pr β} (hp : Good p) (hf : ∀ a, Good (f a)) : Good (p.bind f) := by
  refine ⟨Law.bind hp.law fun a => (hf a).law, fun P s he hi => ?_, fun P R s he hi h => ?_⟩
  · rw [run_bind]
    obtain ⟨h1, h2 | h2⟩ := hp.fin P s he hi
    · exact (hf _).fin P _ h2 h1
    · rw [(hf _).law.stuck P _ (by rw [h2]; decide)]; exact ⟨h1, .inr h2⟩
  · rw [run_bind] at h ⊢
    rw [run_bind]
    have he1 : (p.run (P ++ R) s).2.e = 0 := by
      rcases Decidable.em ((p.run (P ++ R) s).2.e = 0) with h1 | h1
      · exact h1
      · rw [(hf _).law.stuck _ _ h1] at h; exact absurd h h1
    rcases hp.cut P R s he hi he1 with ⟨h1, h2⟩ | ⟨h1, h2 | h2⟩
    · rw [h1]
      exact (hf _).cut P R _ he1 h2 h
    · exact .inr ((hf _).fin P _ h2 h1)
    · right
      rw [(hf _).law.stuck P _ (by rw [h2]; decide)]; exact ⟨h1, .inr h2⟩
end
theorem good_want (t : Bs) : Good (want t) := Good.test (fun _ => Good.ret _) (Good.fail (Law.ret _)) _
theorem good_skip (t : Bs) : Good (skip t) := Good.test (fun _ => Good.ret _) (Good.ret _) _
theorem good_first (a b : Bs) : Good (first a b) := Good.test (fun _ => Good.ret _) (Good.bind (good_want b) fun _ => Good.ret _) _
theorem good_fresh : Good fresh := Good.test (fun _ => Good.ret _) (Good.fail (Law.ret _)) _
theorem good_number (lo hi : Int) : Good (number lo hi) := Good.test (fun _ => Good.ret _) (Good.fail (Law.ret _)) _
theorem good_rowOf (a b : Int) (n : Bs) : Good (rowOf a b n) := Good.test (fun _ => Good.bind (good_want _) fun _ => Good.ret _) (Good.ret _) _
theorem good_typed : Good typed := Good.test (fun _ => Good.ret _) (Good.test (fun _ => good_rowOf _ _ _) (Good.bind good_fresh fun _ => good_rowOf _ _ _) _) _
theorem good_listedGo {α : Type} {q : Wd → Bool} {item : Pr α} (hi : Good item) : ∀ (n : Nat) (acc : List α), Good (listedGo q item n acc)
  | 0, acc => Good.test (fun _ => Good.peekF (Law.ret _) (by decide) (Good.fail (Law.ret _)) _) (Good.ret _) _
  | n + 1, acc => Good.test (fun _ => Good.peek (Good.bind hi fun a => good_listedGo hi n _) (Good.fail (Law.ret _)) _) (Good.ret _) _
theorem good_listed {α : Type} {q : Wd → Bool} {item : Pr α} (hi : Good item) (m : Nat) : Good (listed q item m) := Good.bind hi fun _ => good_listedGo hi _ _
theorem good_many {α : Type} {q : Wd → Bool} {item : Pr α} (hi : Good item) : ∀ (n : Nat) (acc : List α), Good (many q item n acc)
  | 0, acc => Good.peekF (Law.ret _) (by decide) (Good.ret _) _
  | n + 1, acc => Good.peek (Good.bind hi fun a => good_many hi n _) (Good.ret _) _
theorem good_field : Good field := Good.bind (good_first _ _) fun _ => Good.bind good_fresh fun _ => Good.bind (good_want _) fun _ => Good.bind good_typed fun _ => Good.bind (good_want _) fun _ => Good.ret _
theorem good_args (op : Nat) : Good (args op) := by
  unfold args
  split
  · exact Good.bind (good_number _ _) fun _ => Good.ret _
  split
  · exact Good.bind (good_number _ _) fun _ => Good.ret _
  split
  · exact Good.bind (good_number _ _) fun _ => Good.ret _
  split
  · exact Good.bind good_fresh fun _ => Good.ret _
  split
  · exact Good.bind good_fresh fun _ => Good.bind good_fresh fun _ => Good.ret _
  · exact Good.ret _
theorem good_instrOf (op : Nat) : Good (instrOf op) := Good.bind (good_args op) fun _ => Good.bind (good_want _) fun _ => Good.ret _
theorem good_instr : Good instr := Good.test (fun _ => good_instrOf _) (Good.ret _) _
theorem good_catch : Good catch_ := Good.bind (good_want _) fun _ => Good.bind good_fresh fun _ => Good.bind (good_number _ _) fun _ => Good.bind (good_number _ _) fun _ => Good.bind (good_number _ _) fun _ => Good.bind (good_want _) fun _ => Good.ret _
theorem good_body : Good body := Good.bind (good_want _) fun _ => Good.bind (good_number _ _) fun _ => Good.bind (good_want _) fun _ => Good.bind (good_many good_instr _ _) fun _ => Good.bind (good_many good_catch _ _) fun _ => Good.bind (good_want _) fun _ => Good.ret _
theorem good_params : Good params := Good.peek (Good.ret _) (good_listed good_typed _) _
theorem good_bodyOr (ab : Bool) : Good (bodyOr ab) := by unfold bodyOr; split; exact Good.ret _; exact good_body
theorem good_method : Good method := Good.bind (good_first _ _) fun _ => Good.bind good_fresh fun _ => Good.bind (good_want _) fun _ => Good.bind good_params fun _ => Good.bind (good_want _) fun _ => Good.bind good_typed fun _ => Good.bind (good_skip _) fun _ => Good.bind (good_bodyOr _) fun _ => Good.ret _
theorem good_members : ∀ (n : Nat) (fs : List Fld) (ms : List Mth), Good (members n fs ms)
  | 0, fs, ms => Good.peekF (Law.ret _) (by decide) (Good.peekF (Law.ret _) (by decide) (Good.ret _) _) _
  | n + 1, fs, ms => by
    rw [members]
    have h2 : Good (Pr.peek (isW2 wMethod wFunction) (if 6 ≤ ms.length then .fail 2 (.ret (fs, ms)) else method.bind fun m => members n fs (ms ++ [m])) (.ret (fs, ms))) := by
      split
      · exact Good.peekF (Law.ret _) (by decide) (Good.ret _) _
      · exact Good.peek (Good.bind good_method fun _ => good_members n _ _) (Good.ret _) _
    split
    · exact Good.peekF (Law.ret _) (by decide) h2 _
    · exact Good.peek (Good.bind good_field fun _ => good_members n _ _) h2 _
theorem good_superOr (b : Bool) : Good (superOr b) := by unfold superOr; split; exact Good.ret _; exact Good.test (fun _ => good_fresh) (Good.ret _) _
theorem good_ifacesOf (t : Bs) : Good (ifacesOf t) := Good.test (fun _ => good_listed good_fresh _) (Good.ret _) _
theorem good_cls : Good cls := Good.bind (good_first _ _) fun _ => Good.bind good_fresh fun _ => Good.bind (good_superOr _) fun _ => Good.bind (good_ifacesOf _) fun _ => Good.bind (good_want _) fun _ => Good.bind (good_members _ _ _) fun _ => Good.bind (good_want _) fun _ => Good.ret _

/-- A class over words that are cut off: the same class, or fault 4 at the end. -/
theorem cls_cut (P R : List Wd) (s : St) (he : s.e = 0) (hi : s.i ≤ P.length) (h : (cls.run (P ++ R) s).2.e = 0) :
    (cls.run P s = cls.run (P ++ R) s ∧ (cls.run P s).2.i ≤ P.length ∧ (cls.run P s).2.e = 0) ∨ ((cls.run P s).2.i = P.length ∧ (cls.run P s).2.e = 4) := by
  rcases good_cls.cut P R s he hi h with ⟨h1, h2⟩ | ⟨h1, h2 | h2⟩
  · exact .inl ⟨h1, by rw [h1]; exact h2, by rw [h1]; exact h⟩
  · obtain ⟨c1, c2⟩ := cls_closed P R s h2
    exact .inl ⟨c1.symm, c2, h2⟩
  · exact .inr ⟨h1, h2⟩
theorem many_cut (P R : List Wd) (q : Wd → Bool) : ∀ (k : Nat) (acc : List Cls) (s : St), s.e = 0 → s.i ≤ P.length → ((many q cls k acc).run (P ++ R) s).2.e = 0 → (P.length ≤ ((many q cls k acc).run (P ++ R) s).2.i) →
    (((many q cls k acc).run P s).2.e = 0 ∧ ((many q cls k acc).run P s).2.i = P.length ∧ ∃ rest, ((many q cls k acc).run (P ++ R) s).1 = ((many q cls k acc).run P s).1 ++ rest) ∨ (((many q cls k acc).run P s).2.e = 4 ∧ ((many q cls k acc).run P s).2.i = P.length) := by
  intro k
  induction k with
  | zero =>
    intro acc s he hi h hx
    cases hh : has (P ++ R) s q with
    | true => rw [many_run_full hh] at h; exact absurd h (fun h => fail_two s h)
    | false =>
      rw [many_run_no hh] at hx ⊢
      have hx' : P.length ≤ s.i := hx
      have h2 := has_end P s q (by omega)
      rw [many_run_no h2]
      exact .inl ⟨he, by show s.i = _; omega, [], by simp⟩
  | succ k ih =>
    intro acc s he hi h hx
    cases hh : has (P ++ R) s q with
    | false =>
      rw [many_run_no hh] at hx ⊢
      have hx' : P.length ≤ s.i := hx
      have h2 := has_end P s q (by omega)
      rw [many_run_no h2]
      exact .inl ⟨he, by show s.i = _; omega, [], by simp⟩
    | true =>
      rcases Nat.lt_or_ge s.i P.length with hl | hl
      · have h3 : has P s q = true := by rw [has_same (C := P ++ R) (List.getElem?_append_left hl).symm]; exact hh
        rw [many_run_yes hh] at h hx ⊢
        rw [many_run_yes h3]
        have hc : (cls.run (P ++ R) s).2.e = 0 := by
          rcases Decidable.em ((cls.run (P ++ R) s).2.e = 0) with h1 | h1
          · exact h1
          · rw [(law_many law_cls _ _).stuck _ _ h1] at h; exact absurd h h1
        rcases cls_cut P R s he hi hc with ⟨c1, c2, c3⟩ | ⟨c1, c2⟩
        · rw [← c1] at h hx ⊢
          exact ih _ _ c3 c2 h hx
        · right
          rw [(law_many law_cls _ _).stuck P _ (by rw [c2]; decide)]
          exact ⟨c2, c1⟩
      · have h2 := has_end P s q (by omega)
        rw [many_run_no h2]
        refine .inl ⟨he, by show s.i = _; omega, ?_⟩
        obtain ⟨ds, e1, _⟩ := many_more (P ++ R) q cls (k + 1) acc s h
        exact ⟨ds, e1⟩

end Pp
end Go.Proofs.YtildjihgklgibaaDoor

namespace Go.Proofs.YtildjihgklgibaaDoor
namespace Pp
set_option linter.unusedVariables false
set_option linter.unusedSimpArgs false

def nm (s : Bs) : Wd := ⟨1, s, 0⟩
def sg (s : Bs) : Wd := ⟨3, s, 0⟩
def nu (n : Int) : Wd := ⟨2, [], n⟩
def tyW (t : Ty) : List Wd := if t.kind = 1 then [nm wVoid] else if t.kind = 2 then [nm wInt] else if t.kind = 4 then [nm wInt, sg wLK, sg wRK] else if t.kind = 3 then [nm t.name] else if t.kind = 5 then [nm t.name, sg wLK, sg wRK] else []
def fldW (f : Fld) : List Wd := [nm (if f.stat = true then wStatic else wField)] ++ ([nm f.name] ++ ([sg wColon] ++ (tyW f.ty ++ ([sg wSemi] ++ []))))
def argW (i : Ins) : List Wd := if shape i.op = 1 ∨ shape i.op = 2 ∨ shape i.op = 3 then [nu i.n] else if shape i.op = 4 then [nm i.a] else if shape i.op = 5 then [nm i.a, nm i.b] else []
def insW (i : Ins) : List Wd := nm (opWords.getD i.op []) :: (argW i ++ ([sg wSemi] ++ []))
def ctcW (c : Ctc) : List Wd := [nm wCatch] ++ ([nm c.name] ++ ([nu c.lo] ++ ([nu c.hi] ++ ([nu c.pc] ++ ([sg wSemi] ++ [])))))
def moreW {α : Type} (f : α → List Wd) : List α → List Wd
  | [] => []
  | a :: r => sg wComma :: (f a ++ moreW f r)
def commaW {α : Type} (f : α → List Wd) : List α → List Wd
  | [] => []
  | a :: r => f a ++ moreW f r
def manyW {α : Type} (f : α → List Wd) : List α → List Wd
  | [] => []
  | a :: r => f a ++ manyW f r
def bodyW (m : Mth) : List Wd := [nm wLocals] ++ ([nu m.locals] ++ ([sg wLB] ++ (manyW insW m.code ++ (manyW ctcW m.catches ++ ([sg wRB] ++ [])))))
def mthW (m : Mth) : List Wd := [nm (if m.stat = true then wFunction else wMethod)] ++ ([nm m.name] ++ ([sg wLP] ++ (commaW tyW m.params ++ ([sg wRP] ++ (tyW m.ret ++ ((if m.abst = true then [sg wSemi] else []) ++ ((if m.abst = true then [] else bodyW m) ++ [])))))))
def supW (c : Cls) : List Wd := if c.super = [] then [] else [nm wExtends, nm c.super]
def ifsW (c : Cls) : List Wd := if c.ifaces = [] then [] else nm (if c.iface = true then wExtends else wImplements) :: commaW (fun s => [nm s]) c.ifaces
def clsW (c : Cls) : List Wd := [nm (if c.iface = true then wInterface else wClass)] ++ ([nm c.name] ++ (supW c ++ (ifsW c ++ ([sg wLB] ++ ((manyW fldW c.fields ++ manyW mthW c.methods) ++ ([sg wRB] ++ []))))))

def okN (s : Bs) : Prop := Lx.nameL s = true ∧ keptL s = false
def okTy (t : Ty) : Prop := ((t.kind = 1 ∨ t.kind = 2 ∨ t.kind = 4) ∧ t.name = []) ∨ ((t.kind = 3 ∨ t.kind = 5) ∧ okN t.name)
def okFld (f : Fld) : Prop := okN f.name ∧ okTy f.ty
def okArg (i : Ins) : Prop := (shape i.op = 1 ∧ -2147483648 ≤ i.n ∧ i.n ≤ 2147483647 ∧ i.a = [] ∧ i.b = []) ∨ (shape i.op = 2 ∧ 0 ≤ i.n ∧ i.n ≤ 7 ∧ i.a = [] ∧ i.b = []) ∨ (shape i.op = 3 ∧ 0 ≤ i.n ∧ i.n ≤ 47 ∧ i.a = [] ∧ i.b = []) ∨
  (shape i.op = 4 ∧ i.n = 0 ∧ okN i.a ∧ i.b = []) ∨ (shape i.op = 5 ∧ i.n = 0 ∧ okN i.a ∧ okN i.b) ∨ (shape i.op = 0 ∧ i.n = 0 ∧ i.a = [] ∧ i.b = [])
def okIns (i : Ins) : Prop := i.op < 44 ∧ okArg i
def okCtc (c : Ctc) : Prop := okN c.name ∧ (0 ≤ c.lo ∧ c.lo ≤ 48) ∧ (0 ≤ c.hi ∧ c.hi ≤ 48) ∧ (0 ≤ c.pc ∧ c.pc ≤ 48)
def okBody (m : Mth) : Prop := (m.abst = true ∧ m.locals = 0 ∧ m.code = [] ∧ m.catches = []) ∨ (m.abst = false ∧ (0 ≤ m.locals ∧ m.locals ≤ 8) ∧ (m.code.length ≤ 48 ∧ ∀ i ∈ m.code, okIns i) ∧ (m.catches.length ≤ 4 ∧ ∀ c ∈ m.catches, okCtc c))
def okMth (m : Mth) : Prop := okN m.name ∧ (m.params.length ≤ 4 ∧ ∀ t ∈ m.params, okTy t) ∧ okTy m.ret ∧ okBody m
def okCls (c : Cls) : Prop := okN c.name ∧ (c.super = [] ∨ (c.iface = false ∧ okN c.super)) ∧ (c.ifaces.length ≤ 4 ∧ ∀ s ∈ c.ifaces, okN s) ∧ (c.fields.length ≤ 6 ∧ ∀ f ∈ c.fields, okFld f) ∧ (c.methods.length ≤ 6 ∧ ∀ m ∈ c.methods, okMth m)
def okProg (cs : List Cls) : Prop := cs.length ≤ 10 ∧ ∀ c ∈ cs, okCls c

def hd (l : List Wd) (q : Wd → Bool) : Bool := match l with
  | [] => false
  | w :: _ => q w
theorem has_at (A l : List Wd) (q : Wd → Bool) : has (A ++ l) ⟨A.length, 0⟩ q = hd l q := by
  unfold has cur hd
  simp only [if_true]
  rw [List.getElem?_append_right (Nat.le_refl _), Nat.sub_self]
  cases l <;> rfl
/-- The tree reads these words, with those behind, as that. -/
def Reads {α : Type} (p : Pr α) (ws rest : List Wd) (a : α) : Prop := ∀ A : List Wd, p.run (A ++ (ws ++ rest)) ⟨A.length, 0⟩ = (a, ⟨A.length + ws.length, 0⟩)
section
variable {α β : Type}
theorem Reads.ret (a : α) (rest : List Wd) : Reads (Pr.ret a) [] rest a := fun A => rfl
theorem Reads.bind {p : Pr α} {f : α → Pr β} {u v rest : List Wd} {a : α} {b : β} (hp : Reads p u (v ++ rest) a) (hf : Reads (f a) v rest b) : Reads (p.bind f) (u ++ v) rest b := fun A => by
  rw [run_bind, List.append_assoc, hp A]
  have h := hf (A ++ u)
  rw [List.append_assoc, List.length_append] at h
  rw [h, List.length_append, Nat.add_assoc]
theorem Reads.test {q : Wd → Bool} {y : Wd → Pr α} {n : Pr α} {w : Wd} {ws rest : List Wd} {a : α} (hq : q w = true) (hy : Reads (y w) ws rest a) : Reads (Pr.test q y n) (w :: ws) rest a := fun A => by
  rw [test_run, if_pos (by rw [has_at]; exact hq)]
  have hc : cur (A ++ (w :: ws ++ rest)) ⟨A.length, 0⟩ = some w := by
    unfold cur
    simp only [if_true]
    rw [List.getElem?_append_right (Nat.le_refl _), Nat.sub_self]; rfl
  rw [hc]
  have h := hy (A ++ [w])
  rw [List.append_assoc, List.length_append] at h
  show (y w).run (A ++ (w :: ws ++ rest)) ⟨A.length + 1, 0⟩ = _
  have e : A ++ (w :: ws ++ rest) = A ++ ([w] ++ (ws ++ rest)) := rfl
  rw [e]
  refine h.trans ?_
  simp only [List.length_cons, List.length_nil, Nat.zero_add, Prod.mk.injEq, true_and]
  congr 1
  omega
theorem Reads.testNo {q : Wd → Bool} {y : Wd → Pr α} {n : Pr α} {ws rest : List Wd} {a : α} (hq : hd (ws ++ rest) q = false) (hn : Reads n ws rest a) : Reads (Pr.test q y n) ws rest a := fun A => by
  rw [test_run, if_neg (by rw [has_at, hq]; exact Bool.false_ne_true)]; exact hn A
theorem Reads.peek {q : Wd → Bool} {y n : Pr α} {ws rest : List Wd} {a : α} (hq : hd (ws ++ rest) q = true) (hy : Reads y ws rest a) : Reads (Pr.peek q y n) ws rest a := fun A => by
  rw [peek_run, if_pos (by rw [has_at, hq])]; exact hy A
theorem Reads.peekNo {q : Wd → Bool} {y n : Pr α} {ws rest : List Wd} {a : α} (hq : hd (ws ++ rest) q = false) (hn : Reads n ws rest a) : Reads (Pr.peek q y n) ws rest a := fun A => by
  rw [peek_run, if_neg (by rw [has_at, hq]; exact Bool.false_ne_true)]; exact hn A
end
theorem kept_ne {s t : Bs} (h : keptL s = false) (ht : t ∈ keptWords) : (s == t) = false := by
  unfold keptL at h
  rw [List.any_eq_false] at h
  have := h t ht
  rw [Bool.not_eq_true] at this
  rw [← this]
  simp [BEq.comm]
theorem name_ne {s : Bs} {c : UInt8} (h : Lx.nameL s = true) (hc : Lx.inw c = false) : (s == [c]) = false := by
  cases s with
  | nil => rfl
  | cons x r =>
    cases hb : (x :: r == [c]) with
    | false => rfl
    | true =>
      have e : x :: r = [c] := by simpa using hb
      injection e with e1 e2
      subst e1; subst e2
      simp [Lx.nameL, hc] at h
theorem reads_want {t : Bs} {w : Wd} (h : (w.text == t) = true) (rest : List Wd) : Reads (want t) [w] rest () := Reads.test h (Reads.ret _ _)
theorem reads_fresh {s : Bs} (h : okN s) (rest : List Wd) : Reads fresh [nm s] rest s := Reads.test (by simp [isFresh, nm, h.2]) (Reads.ret _ _)
theorem reads_number {lo hi n : Int} (h1 : lo ≤ n) (h2 : n ≤ hi) (rest : List Wd) : Reads (number lo hi) [nu n] rest n := Reads.test (by simp [isNum, nu, h1, h2]) (Reads.ret _ _)
theorem reads_first {a b : Bs} (h : (b == a) = false) (st : Bool) (rest : List Wd) : Reads (first a b) [nm (if st = true then a else b)] rest st := by
  cases st with
  | true => exact Reads.test (by simp [isW, nm]) (Reads.ret _ _)
  | false => exact Reads.testNo h (Reads.bind (u := [nm b]) (v := []) (reads_want (by simp [nm]) _) (Reads.ret _ _))
theorem hd_text {q : Wd → Bool} {w : Wd} {l : List Wd} (h : q w = false) : hd (w :: l) q = false := h
theorem reads_row {one row : Int} {n : Bs} (rest : List Wd) : Reads (rowOf one row n) [sg wLK, sg wRK] rest ⟨row, n⟩ :=
  Reads.test (by decide) (Reads.bind (u := [sg wRK]) (v := []) (reads_want (by decide) _) (Reads.ret _ _))
theorem reads_one {one row : Int} {n : Bs} {rest : List Wd} (h : hd rest (isW wLK) = false) : Reads (rowOf one row n) [] rest ⟨one, n⟩ := Reads.testNo h (Reads.ret _ _)
theorem isW_nm (s t : Bs) : isW t (nm s) = (s == t) := rfl
theorem reads_typed {t : Ty} (ht : okTy t) {rest : List Wd} (h : hd rest (isW wLK) = false) : Reads typed (tyW t) rest t := by
  obtain ⟨k, n⟩ := t
  rcases ht with ⟨hk, hn⟩ | ⟨hk, hn⟩
  · simp only at hk hn
    subst hn
    rcases hk with rfl | rfl | rfl
    · exact Reads.test (w := nm wVoid) (ws := []) (by decide) (Reads.ret _ _)
    · exact Reads.testNo (ws := [nm wInt]) (hd_text (by decide)) (Reads.test (w := nm wInt) (ws := []) (by decide) (reads_one h))
    · exact Reads.testNo (ws := [nm wInt, sg wLK, sg wRK]) (hd_text (by decide)) (Reads.test (w := nm wInt) (ws := [sg wLK, sg wRK]) (by decide) (reads_row _))
  · simp only at hk hn
    have h1 : isW wVoid (nm n) = false := kept_ne hn.2 (by decide)
    have h2 : isW wInt (nm n) = false := kept_ne hn.2 (by decide)
    rcases hk with rfl | rfl
    · exact Reads.testNo (ws := [nm n]) (hd_text h1) (Reads.testNo (hd_text h2) (Reads.bind (u := [nm n]) (v := []) (reads_fresh hn _) (reads_one h)))
    · exact Reads.testNo (ws := [nm n, sg wLK, sg wRK]) (hd_text h1) (Reads.testNo (hd_text h2) (Reads.bind (u := [nm n]) (v := [sg wLK, sg wRK]) (reads_fresh hn _) (reads_row _)))
theorem reads_field {f : Fld} (h : okFld f) (rest : List Wd) : Reads field (fldW f) rest f := by
  obtain ⟨n, t, st⟩ := f
  exact Reads.bind (reads_first (by decide) st _) (Reads.bind (reads_fresh h.1 _) (Reads.bind (reads_want (by decide) _) (Reads.bind (reads_typed h.2 (hd_text (by decide))) (Reads.bind (reads_want (by decide) _) (Reads.ret _ _)))))
theorem op_word : ∀ k, k < 44 → opL (opWords.getD k []) = some k := by decide +kernel
theorem reads_args {i : Ins} (h : okArg i) (rest : List Wd) : Reads (args i.op) (argW i) rest (i.n, i.a, i.b) := by
  obtain ⟨op, n, a, b⟩ := i
  unfold args argW
  simp only [okArg] at h ⊢
  rcases h with ⟨hs, h1, h2, rfl, rfl⟩ | ⟨hs, h1, h2, rfl, rfl⟩ | ⟨hs, h1, h2, rfl, rfl⟩ | ⟨hs, rfl, h1, rfl⟩ | ⟨hs, rfl, h1, h2⟩ | ⟨hs, rfl, rfl, rfl⟩
  · rw [hs]; exact (show Reads ((number (-2147483648) 2147483647).bind fun n => .ret (n, [], [])) ([nu n] ++ []) rest (n, [], []) from Reads.bind (reads_number h1 h2 _) (Reads.ret _ _))
  · rw [hs]; exact (show Reads ((number 0 7).bind fun n => .ret (n, [], [])) ([nu n] ++ []) rest (n, [], []) from Reads.bind (reads_number h1 h2 _) (Reads.ret _ _))
  · rw [hs]; exact (show Reads ((number 0 47).bind fun n => .ret (n, [], [])) ([nu n] ++ []) rest (n, [], []) from Reads.bind (reads_number h1 h2 _) (Reads.ret _ _))
  · rw [hs, if_neg (show ¬ (4 : Nat) = 1 by decide), if_neg (show ¬ (4 : Nat) = 2 by decide), if_neg (show ¬ (4 : Nat) = 3 by decide), if_pos rfl, if_neg (show ¬ ((4 : Nat) = 1 ∨ (4 : Nat) = 2 ∨ (4 : Nat) = 3) by decide), if_pos rfl]; exact (show Reads (fresh.bind fun a => .ret ((0 : Int), a, [])) ([nm a] ++ []) rest (0, a, []) from Reads.bind (reads_fresh h1 _) (Reads.ret _ _))
  · rw [hs, if_neg (show ¬ (5 : Nat) = 1 by decide), if_neg (show ¬ (5 : Nat) = 2 by decide), if_neg (show ¬ (5 : Nat) = 3 by decide), if_neg (show ¬ (5 : Nat) = 4 by decide), if_pos rfl, if_neg (show ¬ ((5 : Nat) = 1 ∨ (5 : Nat) = 2 ∨ (5 : Nat) = 3) by decide), if_neg (show ¬ (5 : Nat) = 4 by decide), if_pos rfl]; exact (show Reads (fresh.bind fun a => fresh.bind fun b => .ret ((0 : Int), a, b)) ([nm a] ++ ([nm b] ++ [])) rest (0, a, b) from Reads.bind (reads_fresh h1 _) (Reads.bind (reads_fresh h2 _) (Reads.ret _ _)))
  · rw [hs]; exact Reads.ret _ _
theorem reads_instr {i : Ins} (h : okIns i) (rest : List Wd) : Reads instr (insW i) rest i := by
  have e := op_word i.op h.1
  have e2 : opL (nm (opWords.getD i.op [])).text = some i.op := e
  refine Reads.test (w := nm (opWords.getD i.op [])) (by simp only [isInstr, e2]; rfl) ?_
  simp only [e2, Option.getD_some]
  exact Reads.bind (reads_args h.2 _) (Reads.bind (reads_want (by decide) _) (Reads.ret _ _))
theorem reads_catch {c : Ctc} (h : okCtc c) (rest : List Wd) : Reads catch_ (ctcW c) rest c := by
  obtain ⟨n, x, y, z⟩ := c
  obtain ⟨h0, ⟨h1, h2⟩, ⟨h3, h4⟩, h5, h6⟩ := h
  exact Reads.bind (reads_want (by decide) _) (Reads.bind (reads_fresh h0 _) (Reads.bind (reads_number h1 h2 _) (Reads.bind (reads_number h3 h4 _) (Reads.bind (reads_number h5 h6 _) (Reads.bind (reads_want (by decide) _) (Reads.ret _ _))))))
theorem reads_many {α : Type} {q : Wd → Bool} {item : Pr α} {f : α → List Wd} {ok : α → Prop} (hi : ∀ a rest, ok a → Reads item (f a) rest a) (hq : ∀ a rest, ok a → hd (f a ++ rest) q = true) : ∀ (l : List α) (k : Nat) (acc : List α) (rest : List Wd), l.length ≤ k → (∀ a ∈ l, ok a) → hd rest q = false → Reads (many q item k acc) (manyW f l) rest (acc ++ l)
  | [], k, acc, rest, hk, ha, hr => by
    rw [List.append_nil]
    cases k with
    | zero => exact Reads.peekNo hr (Reads.ret _ _)
    | succ k => exact Reads.peekNo hr (Reads.ret _ _)
  | a :: l, 0, acc, rest, hk, ha, hr => by simp at hk
  | a :: l, k + 1, acc, rest, hk, ha, hr => by
    have h1 := ha a (by simp)
    refine Reads.peek (by rw [manyW, List.append_assoc]; exact hq a _ h1) ?_
    have h2 := reads_many hi hq l k (acc ++ [a]) rest (by simpa using hk) (fun x hx => ha x (by simp [hx])) hr
    rw [List.append_assoc] at h2
    exact Reads.bind (hi a _ h1) h2
theorem reads_listedGo {α : Type} {q : Wd → Bool} {item : Pr α} {f : α → List Wd} {ok : α → Prop} (hi : ∀ a rest, ok a → hd rest (isW wLK) = false → Reads item (f a) rest a) (hq : ∀ a rest, ok a → hd (f a ++ rest) q = true) : ∀ (l : List α) (k : Nat) (acc : List α) (rest : List Wd), l.length ≤ k → (∀ a ∈ l, ok a) → hd rest (isW wComma) = false → hd rest (isW wLK) = false → Reads (listedGo q item k acc) (moreW f l) rest (acc ++ l)
  | [], k, acc, rest, hk, ha, hr, hr2 => by
    rw [List.append_nil]
    cases k with
    | zero => exact Reads.testNo hr (Reads.ret _ _)
    | succ k => exact Reads.testNo hr (Reads.ret _ _)
  | a :: l, 0, acc, rest, hk, ha, hr, hr2 => by simp at hk
  | a :: l, k + 1, acc, rest, hk, ha, hr, hr2 => by
    have h1 := ha a (by simp)
    have h2 := reads_listedGo hi hq l k (acc ++ [a]) rest (by simpa using hk) (fun x hx => ha x (by simp [hx])) hr hr2
    rw [List.append_assoc] at h2
    have h3 : hd (moreW f l ++ rest) (isW wLK) = false := by
      cases l with
      | nil => exact hr2
      | cons b l => exact hd_text (by decide)
    exact Reads.test (by decide) (Reads.peek (by rw [List.append_assoc]; exact hq a _ h1) (Reads.bind (hi a _ h1 h3) h2))
theorem reads_listed {α : Type} {q : Wd → Bool} {item : Pr α} {f : α → List Wd} {ok : α → Prop} (hi : ∀ a rest, ok a → hd rest (isW wLK) = false → Reads item (f a) rest a) (hq : ∀ a rest, ok a → hd (f a ++ rest) q = true) (a : α) (l : List α) (m : Nat) (rest : List Wd) (hm : (a :: l).length ≤ m) (ha : ∀ x ∈ a :: l, ok x) (hr : hd rest (isW wComma) = false) (hr2 : hd rest (isW wLK) = false) : Reads (listed q item m) (commaW f (a :: l)) rest (a :: l) := by
  have h3 : hd (moreW f l ++ rest) (isW wLK) = false := by
    cases l with
    | nil => exact hr2
    | cons b l => exact hd_text (by decide)
  exact Reads.bind (hi a _ (ha a (by simp)) h3) (reads_listedGo hi hq l (m - 1) [a] rest (by simp at hm; omega) (fun x hx => ha x (by simp [hx])) hr hr2)
theorem ty_head {t : Ty} (h : okTy t) (rest : List Wd) : hd (tyW t ++ rest) isType = true ∧ hd (tyW t ++ rest) (isW wRP) = false := by
  obtain ⟨k, n⟩ := t
  rcases h with ⟨hk, hn⟩ | ⟨hk, hn⟩
  · simp only at hk hn
    rcases hk with rfl | rfl | rfl
    · exact ⟨show isType (nm wVoid) = true by decide, show isW wRP (nm wVoid) = false by decide⟩
    · exact ⟨show isType (nm wInt) = true by decide, show isW wRP (nm wInt) = false by decide⟩
    · exact ⟨show isType (nm wInt) = true by decide, show isW wRP (nm wInt) = false by decide⟩
  · simp only at hk hn
    have h1 : isType (nm n) = true := by simp [isType, isFresh, nm, hn.2]
    have h2 : isW wRP (nm n) = false := name_ne hn.1 (by decide)
    rcases hk with rfl | rfl
    · exact ⟨h1, h2⟩
    · exact ⟨h1, h2⟩
theorem reads_params {l : List Ty} (h : l.length ≤ 4) (ha : ∀ t ∈ l, okTy t) {rest : List Wd} (hr : hd rest (isW wRP) = true) (hr1 : hd rest (isW wComma) = false) (hr2 : hd rest (isW wLK) = false) : Reads params (commaW tyW l) rest l := by
  cases l with
  | nil => exact Reads.peek hr (Reads.ret _ _)
  | cons a l =>
    refine Reads.peekNo (by rw [commaW, List.append_assoc]; exact (ty_head (ha a (by simp)) _).2) ?_
    exact reads_listed (ok := okTy) (fun a rest ho hl => reads_typed ho hl) (fun a rest ho => (ty_head ho rest).1) a l 4 rest h ha hr1 hr2
theorem ins_head (i : Ins) (rest : List Wd) (h : okIns i) : hd (insW i ++ rest) isInstr = true := by
  have e2 : opL (nm (opWords.getD i.op [])).text = some i.op := op_word i.op h.1
  show (opL (nm (opWords.getD i.op [])).text).isSome = true
  rw [e2]; rfl
theorem reads_body {m : Mth} (h : (0 ≤ m.locals ∧ m.locals ≤ 8) ∧ (m.code.length ≤ 48 ∧ ∀ i ∈ m.code, okIns i) ∧ (m.catches.length ≤ 4 ∧ ∀ c ∈ m.catches, okCtc c)) (rest : List Wd) : Reads body (bodyW m) rest (m.locals, m.code, m.catches) := by
  obtain ⟨⟨h1, h2⟩, ⟨h3, h4⟩, h5, h6⟩ := h
  have hc : hd (([sg wRB] ++ []) ++ rest) (isW wCatch) = false := hd_text (by decide)
  have hb : hd ((manyW ctcW m.catches ++ ([sg wRB] ++ [])) ++ rest) isInstr = false := by
    cases m.catches with
    | nil => exact hd_text (by decide)
    | cons c l => exact hd_text (by decide)
  have r1 := reads_many (q := isInstr) (item := instr) (ok := okIns) (fun a rest ho => reads_instr ho rest) ins_head m.code 48 [] _ h3 h4 hb
  have r2 := reads_many (q := isW wCatch) (item := catch_) (ok := okCtc) (fun a rest ho => reads_catch ho rest) (fun a rest ho => by show isW wCatch (nm wCatch) = true; decide) m.catches 4 [] _ h5 h6 hc
  rw [List.nil_append] at r1 r2
  exact Reads.bind (reads_want (by decide) _) (Reads.bind (reads_number h1 h2 _) (Reads.bind (reads_want (by decide) _) (Reads.bind r1 (Reads.bind r2 (Reads.bind (reads_want (by decide) _) (Reads.ret _ _))))))
theorem reads_method {m : Mth} (h : okMth m) (rest : List Wd) : Reads method (mthW m) rest m := by
  obtain ⟨n, st, ab, ps, rt, lo, co, ca⟩ := m
  obtain ⟨h1, ⟨h2, h3⟩, h4, h5⟩ := h
  simp only at h1 h2 h3 h4
  have hsk : ∀ r2, Reads (skip wSemi) (if ab = true then [sg wSemi] else []) ((if ab = true then [] else bodyW ⟨n, st, ab, ps, rt, lo, co, ca⟩) ++ r2) ab := fun r2 => by
    cases ab with
    | true => exact Reads.test (by decide) (Reads.ret _ _)
    | false => exact Reads.testNo (show hd (bodyW _ ++ r2) (isW wSemi) = false from hd_text (by decide)) (Reads.ret _ _)
  have hbo : ∀ r2, Reads (bodyOr ab) (if ab = true then [] else bodyW ⟨n, st, ab, ps, rt, lo, co, ca⟩) r2 (lo, co, ca) := fun r2 => by
    rcases h5 with ⟨e0, e1, e2, e3⟩ | ⟨e0, e1⟩
    · simp only at e0 e1 e2 e3
      subst e0 e1 e2 e3
      exact Reads.ret _ _
    · simp only at e0
      subst e0
      exact reads_body e1 r2
  have hlk : ∀ r2, hd (((if ab = true then [sg wSemi] else []) ++ ((if ab = true then [] else bodyW ⟨n, st, ab, ps, rt, lo, co, ca⟩) ++ [])) ++ r2) (isW wLK) = false := fun r2 => by
    cases ab with
    | true => exact hd_text (by decide)
    | false => exact (show hd ((bodyW _ ++ []) ++ r2) (isW wLK) = false from hd_text (by decide))
  refine Reads.bind (reads_first (by decide) st _) (Reads.bind (reads_fresh h1 _) (Reads.bind (reads_want (by decide) _) (Reads.bind (reads_params h2 h3 ?_ ?_ ?_) (Reads.bind (reads_want (by decide) _) (Reads.bind (reads_typed h4 (hlk _)) (Reads.bind ?_ (Reads.bind (hbo _) (Reads.ret _ _))))))))
  · exact (show isW wRP (sg wRP) = true by decide)
  · exact (show isW wComma (sg wRP) = false by decide)
  · exact (show isW wLK (sg wRP) = false by decide)
  · rw [List.append_nil]; exact hsk rest
theorem fld_head (f : Fld) (rest : List Wd) : hd (fldW f ++ rest) (isW2 wField wStatic) = true := by
  show isW2 wField wStatic (nm (if f.stat = true then wStatic else wField)) = true
  cases f.stat <;> decide
theorem mth_head (m : Mth) (rest : List Wd) : hd (mthW m ++ rest) (isW2 wField wStatic) = false ∧ hd (mthW m ++ rest) (isW2 wMethod wFunction) = true := by
  constructor
  · show isW2 wField wStatic (nm (if m.stat = true then wFunction else wMethod)) = false
    cases m.stat <;> decide
  · show isW2 wMethod wFunction (nm (if m.stat = true then wFunction else wMethod)) = true
    cases m.stat <;> decide
theorem reads_members2 : ∀ (ms : List Mth) (k : Nat) (fs0 : List Fld) (ms0 : List Mth) (rest : List Wd), ms.length ≤ k → ms0.length + ms.length ≤ 6 → (∀ m ∈ ms, okMth m) → hd rest (isW2 wField wStatic) = false → hd rest (isW2 wMethod wFunction) = false → Reads (members k fs0 ms0) (manyW mthW ms) rest (fs0, ms0 ++ ms)
  | [], k, fs0, ms0, rest, hk, h6, ha, hr1, hr2 => by
    rw [List.append_nil]
    cases k with
    | zero => exact Reads.peekNo hr1 (Reads.peekNo hr2 (Reads.ret _ _))
    | succ k => exact Reads.peekNo hr1 (Reads.peekNo hr2 (Reads.ret _ _))
  | m :: ms, 0, fs0, ms0, rest, hk, h6, ha, hr1, hr2 => by simp at hk
  | m :: ms, k + 1, fs0, ms0, rest, hk, h6, ha, hr1, hr2 => by
    rw [members]
    refine Reads.peekNo (by rw [manyW, List.append_assoc]; exact (mth_head m _).1) (Reads.peek (by rw [manyW, List.append_assoc]; exact (mth_head m _).2) ?_)
    rw [if_neg (by simp at h6; omega)]
    have h2 := reads_members2 ms k fs0 (ms0 ++ [m]) rest (by simpa using hk) (by simp at h6 ⊢; omega) (fun x hx => ha x (by simp [hx])) hr1 hr2
    rw [List.append_assoc] at h2
    exact Reads.bind (reads_method (ha m (by simp)) _) h2
theorem reads_members : ∀ (fs : List Fld) (ms : List Mth) (k : Nat) (fs0 : List Fld) (rest : List Wd), fs.length + ms.length ≤ k → fs0.length + fs.length ≤ 6 → ms.length ≤ 6 → (∀ f ∈ fs, okFld f) → (∀ m ∈ ms, okMth m) → hd rest (isW2 wField wStatic) = false → hd rest (isW2 wMethod wFunction) = false → Reads (members k fs0 []) (manyW fldW fs ++ manyW mthW ms) rest (fs0 ++ fs, ms)
  | [], ms, k, fs0, rest, hk, h6, h7, ha, hb, hr1, hr2 => by
    rw [List.append_nil]
    exact reads_members2 ms k fs0 [] rest (by simpa using hk) (by simpa using h7) hb hr1 hr2
  | f :: fs, ms, 0, fs0, rest, hk, h6, h7, ha, hb, hr1, hr2 => by simp at hk
  | f :: fs, ms, k + 1, fs0, rest, hk, h6, h7, ha, hb, hr1, hr2 => by
    rw [members]
    refine Reads.peek (by rw [manyW, List.append_assoc, List.append_assoc]; exact fld_head f _) ?_
    rw [if_neg (by simp at h6; omega)]
    have h2 := reads_members fs ms k (fs0 ++ [f]) rest (by simp at hk; omega) (by simp at h6 ⊢; omega) h7 (fun x hx => ha x (by simp [hx])) hb hr1 hr2
    rw [List.append_assoc] at h2
    rw [manyW, List.append_assoc]
    exact Reads.bind (reads_field (ha f (by simp)) _) h2
theorem reads_cls {c : Cls} (h : okCls c) (rest : List Wd) : Reads cls (clsW c) rest c := by
  obtain ⟨n, ic, sup, ifs, fs, ms⟩ := c
  obtain ⟨h1, h2, ⟨h3, h4⟩, ⟨h5, h6⟩, h7, h8⟩ := h
  simp only at h1 h2 h3 h4 h5 h6 h7 h8
  have hif : ∀ r2, hd r2 (isW wComma) = false → hd r2 (isW wLK) = false → hd r2 (isW (if ic = true then wExtends else wImplements)) = false → Reads (ifacesOf (if ic = true then wExtends else wImplements)) (ifsW ⟨n, ic, sup, ifs, fs, ms⟩) r2 ifs := fun r2 g1 g2 g3 => by
    unfold ifsW
    cases ifs with
    | nil => exact Reads.testNo g3 (Reads.ret _ _)
    | cons a l =>
      rw [if_neg (show ¬ (a :: l = []) by simp)]
      exact Reads.test (by rw [isW_nm]; exact beq_self_eq_true _) (reads_listed (ok := okN) (fun a rest ho _ => reads_fresh ho rest) (fun a rest ho => by show isFresh (nm a) = true; simp [isFresh, nm, ho.2]) a l 4 r2 h3 h4 g1 g2)
  have hsup : ∀ r2, hd r2 (isW wExtends) = false ∨ ic = true → Reads (superOr ic) (supW ⟨n, ic, sup, ifs, fs, ms⟩) r2 sup := fun r2 g => by
    unfold supW superOr
    simp only
    rcases h2 with rfl | ⟨rfl, h2⟩
    · rw [if_pos rfl]
      cases ic with
      | true => exact Reads.ret _ _
      | false =>
        rcases g with g | g
        · exact Reads.testNo g (Reads.ret _ _)
        · cases g
    · rw [if_neg (show ¬ (false = true) by simp), if_neg (fun e : sup = [] => by have h0 := h2.1; rw [e] at h0; simp [Lx.nameL] at h0)]
      exact Reads.test (by decide) (reads_fresh h2 _)
  have hlb : ∀ (q : Wd → Bool) (r2 : List Wd), q (sg wLB) = false → (ifs ≠ [] → q (nm (if ic = true then wExtends else wImplements)) = false) → hd ((ifsW ⟨n, ic, sup, ifs, fs, ms⟩ ++ ([sg wLB] ++ r2))) q = false := fun q r2 g1 g2 => by
    unfold ifsW
    cases ifs with
    | nil => exact g1
    | cons a l => rw [if_neg (show ¬ (a :: l = []) by simp)]; exact g2 (by simp)
  refine Reads.bind (reads_first (by decide) ic _) (Reads.bind (reads_fresh h1 _) (Reads.bind (hsup _ ?_) (Reads.bind (hif _ ?_ ?_ ?_) (Reads.bind (reads_want (by decide) _) (Reads.bind (reads_members fs ms 12 [] _ (by omega) (by simpa using h5) h7 h6 h8 ?_ ?_) (Reads.bind (reads_want (by decide) _) (Reads.ret _ _)))))))
  · cases ic with
    | true => exact .inr rfl
    | false =>
      left
      rw [List.append_assoc]
      exact hlb _ _ (by decide) (fun _ => by decide)
  · exact (show isW wComma (sg wLB) = false by decide)
  · exact (show isW wLK (sg wLB) = false by decide)
  · show isW _ (sg wLB) = false
    cases ic <;> decide
  · exact (show isW2 wField wStatic (sg wRB) = false by decide)
  · exact (show isW2 wMethod wFunction (sg wRB) = false by decide)
theorem cls_head (c : Cls) (rest : List Wd) (h : okCls c) : hd (clsW c ++ rest) (isW2 wClass wInterface) = true := by
  show isW2 wClass wInterface (nm (if c.iface = true then wInterface else wClass)) = true
  cases c.iface <;> decide
/-- A program's words are read as that program. -/
theorem reads_prog {cs : List Cls} (h : okProg cs) : progP.run (manyW clsW cs) ⟨0, 0⟩ = (cs, ⟨(manyW clsW cs).length, 0⟩) := by
  have r1 := reads_many (q := isW2 wClass wInterface) (item := cls) (ok := okCls) (fun a rest ho => reads_cls ho rest) cls_head cs 10 [] [] h.1 h.2 rfl
  have r2 : Reads progP (manyW clsW cs) [] cs := by
    have := Reads.bind (v := []) (f := fun cs => Pr.peek (fun _ => true) (.fail 4 (.ret cs)) (.ret cs)) (b := cs) (rest := []) r1 (Reads.peekNo rfl (Reads.ret _ _))
    rw [List.append_nil] at this
    exact this
  have h3 := r2 []
  simp only [List.nil_append, List.append_nil, List.length_nil, Nat.zero_add] at h3
  exact h3

end Pp
end Go.Proofs.YtildjihgklgibaaDoor

namespace Go.Proofs.YtildjihgklgibaaDoor
namespace Pp
set_option linter.unusedVariables false
set_option linter.unusedSimpArgs false

def VW (C : List Wd) : Prop := ∀ w ∈ C, w.kind = 1 → Lx.nameL w.text = true
def Ens {α : Type} (p : Pr α) (P : α → Prop) : Prop := ∀ C s, VW C → (p.run C s).2.e = 0 → P (p.run C s).1
section
variable {α β : Type}
theorem Ens.ret {a : α} {P : α → Prop} (h : P a) : Ens (Pr.ret a) P := fun _ _ _ _ => h
theorem Ens.fail {p : Pr α} {P : α → Prop} (hp : Law p) {k : Int} (hk : k ≠ 0) : Ens (Pr.fail k p) P := fun C s _ h => by
  exfalso
  rw [run_fail] at h
  by_cases he : s.e = 0
  · rw [show failS s k = ⟨s.i, k⟩ from by simp [failS, he], hp.stuck _ _ hk] at h
    exact hk h
  · rw [failS_off s k he, hp.stuck _ _ he] at h
    exact he h
theorem Ens.test {q : Wd → Bool} {y : Wd → Pr α} {n : Pr α} {P : α → Prop} (hy : ∀ t, (t.kind = 1 → Lx.nameL t.text = true) → q t = true → Ens (y t) P) (hn : Ens n P) : Ens (Pr.test q y n) P := fun C s hC h => by
  cases hh : has C s q with
  | true =>
    obtain ⟨t, ht, hq, he⟩ := has_cur hh
    rw [run_test C q y n s t hh ht] at h ⊢
    refine hy t (hC t ?_) hq C s.adv hC h
    unfold cur at ht
    rw [if_pos he] at ht
    exact List.mem_of_getElem? ht
  | false =>
    rw [run_test_no C q y n s hh] at h ⊢
    exact hn C s hC h
theorem Ens.peek {q : Wd → Bool} {y n : Pr α} {P : α → Prop} (hy : Ens y P) (hn : Ens n P) : Ens (Pr.peek q y n) P := fun C s hC h => by
  cases hh : has C s q with
  | true => rw [run_peek_yes hh] at h ⊢; exact hy C s hC h
  | false => rw [run_peek_no hh] at h ⊢; exact hn C s hC h
theorem Ens.bind {p : Pr α} {f : α → Pr β} {Q : α → Prop} {P : β → Prop} (hp : Ens p Q) (hl : ∀ a, Law (f a)) (hf : ∀ a, Q a → Ens (f a) P) : Ens (p.bind f) P := fun C s hC h => by
  rw [run_bind] at h ⊢
  have he : (p.run C s).2.e = 0 := by
    rcases Decidable.em ((p.run C s).2.e = 0) with h1 | h1
    · exact h1
    · rw [(hl _).stuck C _ h1] at h; exact absurd h h1
  exact hf _ (hp C s hC he) C _ hC h
theorem Ens.any (p : Pr α) : Ens p (fun _ => True) := fun _ _ _ _ => trivial
theorem Ens.mono {p : Pr α} {P Q : α → Prop} (h : Ens p P) (hq : ∀ a, P a → Q a) : Ens p Q := fun C s hC he => hq _ (h C s hC he)
end
theorem ens_fresh : Ens fresh okN := Ens.test (fun t hv hq => Ens.ret (by
  simp only [isFresh, Bool.and_eq_true, beq_iff_eq, Bool.not_eq_true'] at hq
  exact ⟨hv hq.1, hq.2⟩)) (Ens.fail (Law.ret _) (by decide))
theorem ens_number (lo hi : Int) : Ens (number lo hi) (fun n => lo ≤ n ∧ n ≤ hi) := Ens.test (fun t hv hq => Ens.ret (by
  simp only [isNum, Bool.and_eq_true, decide_eq_true_eq] at hq
  exact hq.2)) (Ens.fail (Law.ret _) (by decide))
theorem ens_rowOf (one row : Int) (n : Bs) : Ens (rowOf one row n) (fun t => (t.kind = one ∨ t.kind = row) ∧ t.name = n) :=
  Ens.test (fun t hv hq => Ens.bind (Ens.any _) (fun _ => Law.ret _) fun _ _ => Ens.ret ⟨.inr rfl, rfl⟩) (Ens.ret ⟨.inl rfl, rfl⟩)
theorem ens_typed : Ens typed okTy := Ens.test (fun t hv hq => Ens.ret (.inl ⟨.inl rfl, rfl⟩)) (Ens.test (fun t hv hq => (ens_rowOf _ _ _).mono fun a h => .inl ⟨by rcases h.1 with h | h; exact .inr (.inl h); exact .inr (.inr h), h.2⟩)
  (Ens.bind ens_fresh (fun _ => law_rowOf _ _ _) fun n hn => (ens_rowOf _ _ _).mono fun a h => .inr ⟨h.1, by rw [h.2]; exact hn⟩))
theorem ens_listedGo {α : Type} {q : Wd → Bool} {item : Pr α} {ok : α → Prop} (hl : Law item) (hi : Ens item ok) : ∀ (n : Nat) (acc : List α), (∀ a ∈ acc, ok a) → Ens (listedGo q item n acc) (fun l => l.length ≤ acc.length + n ∧ ∀ a ∈ l, ok a)
  | 0, acc, h => Ens.test (fun _ _ _ => Ens.peek (Ens.fail (Law.ret _) (by decide)) (Ens.fail (Law.ret _) (by decide))) (Ens.ret ⟨by omega, h⟩)
  | n + 1, acc, h => Ens.test (fun _ _ _ => Ens.peek (Ens.bind hi (fun a => law_listedGo hl n _) fun a ha => (ens_listedGo hl hi n (acc ++ [a]) (fun x hx => by
      rcases List.mem_append.1 hx with h1 | h1
      · exact h x h1
      · simp at h1; subst h1; exact ha)).mono fun l hx => ⟨by have := hx.1; simp at this; omega, hx.2⟩) (Ens.fail (Law.ret _) (by decide))) (Ens.ret ⟨by omega, h⟩)
theorem ens_listed {α : Type} {q : Wd → Bool} {item : Pr α} {ok : α → Prop} (hl : Law item) (hi : Ens item ok) (m : Nat) (hm : 1 ≤ m) : Ens (listed q item m) (fun l => l.length ≤ m ∧ ∀ a ∈ l, ok a) :=
  Ens.bind hi (fun a => law_listedGo hl _ _) fun a ha => (ens_listedGo hl hi (m - 1) [a] (fun x hx => by simp at hx; subst hx; exact ha)).mono fun l hx => ⟨by have := hx.1; simp at this; omega, hx.2⟩
theorem ens_many {α : Type} {q : Wd → Bool} {item : Pr α} {ok : α → Prop} (hl : Law item) (hi : Ens item ok) : ∀ (n : Nat) (acc : List α), (∀ a ∈ acc, ok a) → Ens (many q item n acc) (fun l => l.length ≤ acc.length + n ∧ ∀ a ∈ l, ok a)
  | 0, acc, h => Ens.peek (Ens.fail (Law.ret _) (by decide)) (Ens.ret ⟨by omega, h⟩)
  | n + 1, acc, h => Ens.peek (Ens.bind hi (fun a => law_many hl n _) fun a ha => (ens_many hl hi n (acc ++ [a]) (fun x hx => by
      rcases List.mem_append.1 hx with h1 | h1
      · exact h x h1
      · simp at h1; subst h1; exact ha)).mono fun l hx => ⟨by have := hx.1; simp at this; omega, hx.2⟩) (Ens.ret ⟨by omega, h⟩)
theorem ens_field : Ens field okFld := Ens.bind (Ens.any _) (fun _ => Law.bind law_fresh fun _ => Law.bind (law_want _) fun _ => Law.bind law_typed fun _ => Law.bind (law_want _) fun _ => Law.ret _) fun _ _ =>
  Ens.bind ens_fresh (fun _ => Law.bind (law_want _) fun _ => Law.bind law_typed fun _ => Law.bind (law_want _) fun _ => Law.ret _) fun _ hn =>
  Ens.bind (Ens.any _) (fun _ => Law.bind law_typed fun _ => Law.bind (law_want _) fun _ => Law.ret _) fun _ _ =>
  Ens.bind ens_typed (fun _ => Law.bind (law_want _) fun _ => Law.ret _) fun _ ht => Ens.bind (Ens.any _) (fun _ => Law.ret _) fun _ _ => Ens.ret ⟨hn, ht⟩
theorem shape_cases (op : Nat) : shape op = 1 ∨ shape op = 2 ∨ shape op = 3 ∨ shape op = 4 ∨ shape op = 5 ∨ shape op = 0 := by
  unfold shape
  repeat' split
  all_goals simp
theorem ens_args (op : Nat) : Ens (args op) (fun x => okArg ⟨op, x.1, x.2.1, x.2.2⟩) := by
  unfold args
  rcases shape_cases op with h | h | h | h | h | h
  · rw [if_pos h]
    exact Ens.bind (ens_number _ _) (fun _ => Law.ret _) fun n hn => Ens.ret (.inl ⟨h, hn.1, hn.2, rfl, rfl⟩)
  · rw [if_neg (by omega), if_pos h]
    exact Ens.bind (ens_number _ _) (fun _ => Law.ret _) fun n hn => Ens.ret (.inr (.inl ⟨h, hn.1, hn.2, rfl, rfl⟩))
  · rw [if_neg (by omega), if_neg (by omega), if_pos h]
    exact Ens.bind (ens_number _ _) (fun _ => Law.ret _) fun n hn => Ens.ret (.inr (.inr (.inl ⟨h, hn.1, hn.2, rfl, rfl⟩)))
  · rw [if_neg (by omega), if_neg (by omega), if_neg (by omega), if_pos h]
    exact Ens.bind ens_fresh (fun _ => Law.ret _) fun n hn => Ens.ret (.inr (.inr (.inr (.inl ⟨h, rfl, hn, rfl⟩))))
  · rw [if_neg (by omega), if_neg (by omega), if_neg (by omega), if_neg (by omega), if_pos h]
    exact Ens.bind ens_fresh (fun _ => Law.bind law_fresh fun _ => Law.ret _) fun n hn => Ens.bind ens_fresh (fun _ => Law.ret _) fun m hm => Ens.ret (.inr (.inr (.inr (.inr (.inl ⟨h, rfl, hn, hm⟩)))))
  · rw [if_neg (by omega), if_neg (by omega), if_neg (by omega), if_neg (by omega), if_neg (by omega)]
    exact Ens.ret (.inr (.inr (.inr (.inr (.inr ⟨h, rfl, rfl, rfl⟩)))))
theorem opL_lt {s : Bs} {k : Nat} (h : opL s = some k) : k < 44 := by
  unfold opL at h
  have := List.findIdx?_eq_some_iff_getElem.1 h
  obtain ⟨h1, _⟩ := this
  exact h1
theorem ens_instr : Ens instr okIns := Ens.test (fun t hv hq => by
  simp only [isInstr, Option.isSome_iff_exists] at hq
  obtain ⟨k, hk⟩ := hq
  rw [hk, Option.getD_some]
  exact Ens.bind (ens_args k) (fun _ => Law.bind (law_want _) fun _ => Law.ret _) fun x hx => Ens.bind (Ens.any _) (fun _ => Law.ret _) fun _ _ => Ens.ret ⟨opL_lt hk, hx⟩) (Ens.ret ⟨by show 0 < 44; omega, .inr (.inr (.inr (.inr (.inr ⟨rfl, rfl, rfl, rfl⟩))))⟩)
theorem ens_catch : Ens catch_ okCtc := Ens.bind (Ens.any _) (fun _ => Law.bind law_fresh fun _ => Law.bind (law_number _ _) fun _ => Law.bind (law_number _ _) fun _ => Law.bind (law_number _ _) fun _ => Law.bind (law_want _) fun _ => Law.ret _) fun _ _ =>
  Ens.bind ens_fresh (fun _ => Law.bind (law_number _ _) fun _ => Law.bind (law_number _ _) fun _ => Law.bind (law_number _ _) fun _ => Law.bind (law_want _) fun _ => Law.ret _) fun _ h1 =>
  Ens.bind (ens_number _ _) (fun _ => Law.bind (law_number _ _) fun _ => Law.bind (law_number _ _) fun _ => Law.bind (law_want _) fun _ => Law.ret _) fun _ h2 =>
  Ens.bind (ens_number _ _) (fun _ => Law.bind (law_number _ _) fun _ => Law.bind (law_want _) fun _ => Law.ret _) fun _ h3 =>
  Ens.bind (ens_number _ _) (fun _ => Law.bind (law_want _) fun _ => Law.ret _) fun _ h4 => Ens.bind (Ens.any _) (fun _ => Law.ret _) fun _ _ => Ens.ret ⟨h1, h2, h3, h4⟩
def okB (x : Int × List Ins × List Ctc) : Prop := (0 ≤ x.1 ∧ x.1 ≤ 8) ∧ (x.2.1.length ≤ 48 ∧ ∀ i ∈ x.2.1, okIns i) ∧ (x.2.2.length ≤ 4 ∧ ∀ c ∈ x.2.2, okCtc c)
theorem ens_body : Ens body okB := Ens.bind (Ens.any _) (fun _ => Law.bind (law_number _ _) fun _ => Law.bind (law_want _) fun _ => Law.bind (law_many law_instr _ _) fun _ => Law.bind (law_many law_catch _ _) fun _ => Law.bind (law_want _) fun _ => Law.ret _) fun _ _ =>
  Ens.bind (ens_number _ _) (fun _ => Law.bind (law_want _) fun _ => Law.bind (law_many law_instr _ _) fun _ => Law.bind (law_many law_catch _ _) fun _ => Law.bind (law_want _) fun _ => Law.ret _) fun _ h1 =>
  Ens.bind (Ens.any _) (fun _ => Law.bind (law_many law_instr _ _) fun _ => Law.bind (law_many law_catch _ _) fun _ => Law.bind (law_want _) fun _ => Law.ret _) fun _ _ =>
  Ens.bind (ens_many law_instr ens_instr 48 [] (fun x hx => by simp at hx)) (fun _ => Law.bind (law_many law_catch _ _) fun _ => Law.bind (law_want _) fun _ => Law.ret _) fun _ h2 =>
  Ens.bind (ens_many law_catch ens_catch 4 [] (fun x hx => by simp at hx)) (fun _ => Law.bind (law_want _) fun _ => Law.ret _) fun _ h3 => Ens.bind (Ens.any _) (fun _ => Law.ret _) fun _ _ => Ens.ret ⟨h1, ⟨by simpa using h2.1, h2.2⟩, by simpa using h3.1, h3.2⟩
theorem ens_params : Ens params (fun l => l.length ≤ 4 ∧ ∀ t ∈ l, okTy t) := Ens.peek (Ens.ret ⟨by simp, by simp⟩) (ens_listed law_typed ens_typed 4 (by omega))
theorem ens_bodyOr (ab : Bool) : Ens (bodyOr ab) (fun x => (ab = true ∧ x.1 = 0 ∧ x.2.1 = [] ∧ x.2.2 = []) ∨ (ab = false ∧ okB x)) := by
  unfold bodyOr
  cases ab with
  | true => exact Ens.ret (.inl ⟨rfl, rfl, rfl, rfl⟩)
  | false => exact ens_body.mono fun a h => .inr ⟨rfl, h⟩
theorem ens_method : Ens method okMth := Ens.bind (Ens.any _) (fun _ => Law.bind law_fresh fun _ => Law.bind (law_want _) fun _ => Law.bind law_params fun _ => Law.bind (law_want _) fun _ => Law.bind law_typed fun _ => Law.bind (law_skip _) fun _ => Law.bind (law_bodyOr _) fun _ => Law.ret _) fun _ _ =>
  Ens.bind ens_fresh (fun _ => Law.bind (law_want _) fun _ => Law.bind law_params fun _ => Law.bind (law_want _) fun _ => Law.bind law_typed fun _ => Law.bind (law_skip _) fun _ => Law.bind (law_bodyOr _) fun _ => Law.ret _) fun _ h1 =>
  Ens.bind (Ens.any _) (fun _ => Law.bind law_params fun _ => Law.bind (law_want _) fun _ => Law.bind law_typed fun _ => Law.bind (law_skip _) fun _ => Law.bind (law_bodyOr _) fun _ => Law.ret _) fun _ _ =>
  Ens.bind ens_params (fun _ => Law.bind (law_want _) fun _ => Law.bind law_typed fun _ => Law.bind (law_skip _) fun _ => Law.bind (law_bodyOr _) fun _ => Law.ret _) fun _ h2 =>
  Ens.bind (Ens.any _) (fun _ => Law.bind law_typed fun _ => Law.bind (law_skip _) fun _ => Law.bind (law_bodyOr _) fun _ => Law.ret _) fun _ _ =>
  Ens.bind ens_typed (fun _ => Law.bind (law_skip _) fun _ => Law.bind (law_bodyOr _) fun _ => Law.ret _) fun _ h3 =>
  Ens.bind (Ens.any _) (fun _ => Law.bind (law_bodyOr _) fun _ => Law.ret _) fun ab _ => Ens.bind (ens_bodyOr ab) (fun _ => Law.ret _) fun _ h4 => Ens.ret ⟨h1, h2, h3, h4⟩
theorem ens_members : ∀ (n : Nat) (fs : List Fld) (ms : List Mth), (fs.length ≤ 6 ∧ ∀ f ∈ fs, okFld f) → (ms.length ≤ 6 ∧ ∀ m ∈ ms, okMth m) → Ens (members n fs ms) (fun x => (x.1.length ≤ 6 ∧ ∀ f ∈ x.1, okFld f) ∧ (x.2.length ≤ 6 ∧ ∀ m ∈ x.2, okMth m))
  | 0, fs, ms, h1, h2 => Ens.peek (Ens.fail (Law.ret _) (by decide)) (Ens.peek (Ens.fail (Law.ret _) (by decide)) (Ens.ret ⟨h1, h2⟩))
  | n + 1, fs, ms, h1, h2 => by
    rw [members]
    refine Ens.peek ?_ (Ens.peek ?_ (Ens.ret ⟨h1, h2⟩))
    · split
      · exact Ens.fail (Law.ret _) (by decide)
      · refine Ens.bind ens_field (fun _ => law_members n _ _) fun f hf => ens_members n _ _ ⟨by simp; omega, fun x hx => ?_⟩ h2
        rcases List.mem_append.1 hx with g | g
        · exact h1.2 x g
        · simp at g; subst g; exact hf
    · split
      · exact Ens.fail (Law.ret _) (by decide)
      · refine Ens.bind ens_method (fun _ => law_members n _ _) fun f hf => ens_members n _ _ h1 ⟨by simp; omega, fun x hx => ?_⟩
        rcases List.mem_append.1 hx with g | g
        · exact h2.2 x g
        · simp at g; subst g; exact hf
theorem ens_superOr (ic : Bool) : Ens (superOr ic) (fun s => s = [] ∨ (ic = false ∧ okN s)) := by
  unfold superOr
  cases ic with
  | true => exact Ens.ret (.inl rfl)
  | false => exact Ens.test (fun t _ _ => ens_fresh.mono fun a h => .inr ⟨rfl, h⟩) (Ens.ret (.inl rfl))
theorem ens_ifacesOf (t : Bs) : Ens (ifacesOf t) (fun l => l.length ≤ 4 ∧ ∀ s ∈ l, okN s) := Ens.test (fun _ _ _ => ens_listed law_fresh ens_fresh 4 (by omega)) (Ens.ret ⟨by simp, by simp⟩)
theorem ens_cls : Ens cls okCls := Ens.bind (Ens.any _) (fun _ => Law.bind law_fresh fun _ => Law.bind (law_superOr _) fun _ => Law.bind (law_ifacesOf _) fun _ => Law.bind (law_want _) fun _ => Law.bind (law_members _ _ _) fun _ => Law.bind (law_want _) fun _ => Law.ret _) fun ic _ =>
  Ens.bind ens_fresh (fun _ => Law.bind (law_superOr _) fun _ => Law.bind (law_ifacesOf _) fun _ => Law.bind (law_want _) fun _ => Law.bind (law_members _ _ _) fun _ => Law.bind (law_want _) fun _ => Law.ret _) fun _ h1 =>
  Ens.bind (ens_superOr ic) (fun _ => Law.bind (law_ifacesOf _) fun _ => Law.bind (law_want _) fun _ => Law.bind (law_members _ _ _) fun _ => Law.bind (law_want _) fun _ => Law.ret _) fun _ h2 =>
  Ens.bind (ens_ifacesOf _) (fun _ => Law.bind (law_want _) fun _ => Law.bind (law_members _ _ _) fun _ => Law.bind (law_want _) fun _ => Law.ret _) fun _ h3 =>
  Ens.bind (Ens.any _) (fun _ => Law.bind (law_members _ _ _) fun _ => Law.bind (law_want _) fun _ => Law.ret _) fun _ _ =>
  Ens.bind (ens_members 12 [] [] ⟨by simp, by simp⟩ ⟨by simp, by simp⟩) (fun _ => Law.bind (law_want _) fun _ => Law.ret _) fun _ h4 => Ens.bind (Ens.any _) (fun _ => Law.ret _) fun _ _ => Ens.ret ⟨h1, h2, h3, h4.1, h4.2⟩
theorem ens_progP : Ens progP okProg := Ens.bind (ens_many law_cls ens_cls 10 [] (fun x hx => by simp at hx)) (fun _ => Law.peek (Law.fail (Law.ret _) _) (Law.ret _) _) fun cs h => Ens.peek (Ens.fail (Law.ret _) (by decide)) (Ens.ret ⟨by simpa using h.1, h.2⟩)

end Pp
end Go.Proofs.YtildjihgklgibaaDoor

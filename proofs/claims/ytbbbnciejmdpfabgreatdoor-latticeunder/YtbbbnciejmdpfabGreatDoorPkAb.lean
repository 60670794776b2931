/- What the laws of this seat lean on: 5 texts. -/
import Derived.Test.YtbbbnciejmdpfabGreatDoorPkAa
import Derived.Lib.ItoaNum
set_option maxRecDepth 100000
set_option maxHeartbeats 64000000
set_option linter.unusedVariables false
set_option linter.unusedSimpArgs false
namespace Go.Proofs.YtbbbnciejmdpfabGreatDoor
namespace Pp
theorem has_off (C : List Wd) (s : St) (q : Wd -> Bool) (h : s.e ≠ 0) : has C s q = false := by simp [has, cur, h]
theorem failS_off (s : St) (k : Int) (h : s.e ≠ 0) : failS s k = s := by simp [failS, h]
theorem failS_i (s : St) (k : Int) : (failS s k).i = s.i := by unfold failS; split <;> rfl
theorem run_test {α : Type} (C : List Wd) (q : Wd -> Bool) (y : Wd -> Pr α) (n : Pr α) (s : St) (t : Wd) (h : has C s q = true) (ht : cur C s = some t) : (Pr.test q y n).run C s = (y t).run C s.adv := by
 rw [test_run, if_pos h, ht]
theorem run_test_no {α : Type} (C : List Wd) (q : Wd -> Bool) (y : Wd -> Pr α) (n : Pr α) (s : St) (h : has C s q = false) : (Pr.test q y n).run C s = n.run C s := by
 rw [test_run, if_neg (by rw [h]; exact Bool.false_ne_true)]
theorem run_peek_yes {α : Type} {C : List Wd} {q : Wd -> Bool} {s : St} (h : has C s q = true) (y n : Pr α) : (Pr.peek q y n).run C s = y.run C s := by rw [peek_run, if_pos h]
theorem run_peek_no {α : Type} {C : List Wd} {q : Wd -> Bool} {s : St} (h : has C s q = false) (y n : Pr α) : (Pr.peek q y n).run C s = n.run C s := by rw [peek_run, if_neg (by rw [h]; exact Bool.false_ne_true)]
theorem has_cur {C : List Wd} {s : St} {q : Wd -> Bool} (h : has C s q = true) : ∃ t, cur C s = some t /\ q t = true /\ s.e = 0 := by
 unfold has at h
 split at h
 · rename_i t ht
   refine ⟨t, ht, h, ?_⟩; unfold cur at ht
   split at ht
   · assumption
   · cases ht
 · cases h
theorem has_same {C C' : List Wd} {s : St} (h : C'[s.i]? = C[s.i]?) (q : Wd -> Bool) : has C' s q = has C s q := by unfold has cur; rw [h]
theorem cur_same {C C' : List Wd} {s : St} (h : C'[s.i]? = C[s.i]?) : cur C' s = cur C s := by unfold cur; rw [h]
def St.up (n : Nat) (s : St) : St := ⟨n + s.i, s.e⟩
theorem has_shift (A B : List Wd) (s : St) (q : Wd -> Bool) : has (A ++ B) (s.up A.length) q = has B s q := by
 unfold has cur St.up; simp only; rw [List.getElem?_append_right (by omega), Nat.add_sub_cancel_left]
theorem cur_shift (A B : List Wd) (s : St) : cur (A ++ B) (s.up A.length) = cur B s := by
 unfold cur St.up; simp only; rw [List.getElem?_append_right (by omega), Nat.add_sub_cancel_left]
theorem up_adv (n : Nat) (s : St) : (s.up n).adv = s.adv.up n := rfl
theorem up_fail (n : Nat) (s : St) (k : Int) : failS (s.up n) k = (failS s k).up n := by
 unfold failS St.up
 split <;> rfl
structure Law {α : Type} (p : Pr α) : Prop where
 stuck : ∀ C s, s.e ≠ 0 -> (p.run C s).2 = s
 mono : ∀ C s, s.i <= (p.run C s).2.i
 loc : ∀ C C' s, (∀ j, s.i <= j -> j <= (p.run C s).2.i -> C'[j]? = C[j]?) -> p.run C' s = p.run C s
 shift : ∀ A B s, p.run (A ++ B) (s.up A.length) = ((p.run B s).1, (p.run B s).2.up A.length)
section
variable {α β : Type}
theorem Law.ret (a : α) : Law (Pr.ret a) := ⟨fun _ _ _ => rfl, fun _ _ => Nat.le_refl _, fun _ _ _ _ => rfl, fun _ _ _ => rfl⟩
theorem Law.fail {p : Pr α} (h : Law p) (k : Int) : Law (Pr.fail k p) :=
 ⟨fun C s hs => by rw [run_fail, failS_off s k hs]; exact h.stuck C s hs,
  fun C s => by rw [run_fail]; have := h.mono C (failS s k); rw [failS_i] at this; exact this,
  fun C C' s hs => by rw [run_fail] at hs ⊢; rw [run_fail]; exact h.loc C C' (failS s k) (fun j hj hj2 => hs j (by rw [failS_i] at hj; exact hj) hj2),
  fun A B s => by rw [run_fail, run_fail, up_fail]; exact h.shift A B (failS s k)⟩
theorem Law.peek {y n : Pr α} (hy : Law y) (hn : Law n) (q : Wd -> Bool) : Law (Pr.peek q y n) where
 stuck C s hs := by rw [run_peek_no (has_off C s q hs)]; exact hn.stuck C s hs
 mono C s := by
  cases h : has C s q with
  | true => rw [run_peek_yes h]; exact hy.mono C s
  | false => rw [run_peek_no h]; exact hn.mono C s
 loc C C' s hs := by
  have h0 : C'[s.i]? = C[s.i]? := hs s.i (Nat.le_refl _) (by
   cases h : has C s q with
   | true => rw [run_peek_yes h]; exact hy.mono C s
   | false => rw [run_peek_no h]; exact hn.mono C s)
  cases h : has C s q with
  | true =>
    rw [run_peek_yes h] at hs ⊢; rw [run_peek_yes (by rw [has_same h0]; exact h)]
    exact hy.loc C C' s hs
  | false =>
    rw [run_peek_no h] at hs ⊢; rw [run_peek_no (by rw [has_same h0]; exact h)]
    exact hn.loc C C' s hs
 shift A B s := by
  cases h : has B s q with
  | true => rw [run_peek_yes h, run_peek_yes (by rw [has_shift]; exact h)]; exact hy.shift A B s
  | false => rw [run_peek_no h, run_peek_no (by rw [has_shift]; exact h)]; exact hn.shift A B s
theorem Law.test {y : Wd -> Pr α} {n : Pr α} (hy : ∀ t, Law (y t)) (hn : Law n) (q : Wd -> Bool) : Law (Pr.test q y n) where
 stuck C s hs := by rw [run_test_no _ _ _ _ _ (has_off C s q hs)]; exact hn.stuck C s hs
 mono C s := by
  cases h : has C s q with
  | true =>
    obtain ⟨t, ht, _, _⟩ := has_cur h; rw [run_test _ _ _ _ _ t h ht]; exact Nat.le_trans (Nat.le_succ _) ((hy t).mono C s.adv)
  | false => rw [run_test_no _ _ _ _ _ h]; exact hn.mono C s
 loc C C' s hs := by
  have h0 : C'[s.i]? = C[s.i]? := hs s.i (Nat.le_refl _) (by
   cases h : has C s q with
   | true =>
     obtain ⟨t, ht, _, _⟩ := has_cur h; rw [run_test _ _ _ _ _ t h ht]; exact Nat.le_trans (Nat.le_succ _) ((hy t).mono C s.adv)
   | false => rw [run_test_no _ _ _ _ _ h]; exact hn.mono C s)
  cases h : has C s q with
  | true =>
    obtain ⟨t, ht, _, _⟩ := has_cur h; rw [run_test C q y n s t h ht] at hs ⊢; rw [run_test C' q y n s t (by rw [has_same h0]; exact h) (by rw [cur_same h0]; exact ht)]
    exact (hy t).loc C C' s.adv (fun j hj hj2 => hs j (Nat.le_trans (Nat.le_succ _) hj) hj2)
  | false =>
    rw [run_test_no C q y n s h] at hs ⊢; rw [run_test_no C' q y n s (by rw [has_same h0]; exact h)]
    exact hn.loc C C' s hs
 shift A B s := by
  cases h : has B s q with
  | true =>
    obtain ⟨t, ht, _, _⟩ := has_cur h; rw [run_test B q y n s t h ht, run_test (A ++ B) q y n _ t (by rw [has_shift]; exact h) (by rw [cur_shift]; exact ht), up_adv]
    exact (hy t).shift A B s.adv
  | false =>
    rw [run_test_no B q y n s h, run_test_no (A ++ B) q y n _ (by rw [has_shift]; exact h)]
    exact hn.shift A B s
theorem Law.bind {p : Pr α} {f : α -> Pr β} (hp : Law p) (hf : ∀ a, Law (f a)) : Law (p.bind f) where
 stuck C s hs := by
  have h1 := hp.stuck C s hs; rw [run_bind, h1]; exact (hf _).stuck C s hs
 mono C s := by rw [run_bind]; exact Nat.le_trans (hp.mono C s) ((hf _).mono C _)
 loc C C' s hs := by
  rw [run_bind] at hs ⊢; have h1 : p.run C' s = p.run C s := hp.loc C C' s (fun j hj hj2 => hs j hj (Nat.le_trans hj2 ((hf _).mono C _))); rw [run_bind, h1]; exact (hf _).loc C C' _ (fun j hj hj2 => hs j (Nat.le_trans (hp.mono C s) hj) hj2)
 shift A B s := by
  rw [run_bind, hp.shift A B s, run_bind]; exact (hf _).shift A B _
end
def clsOpen : Pr Cls := (first wInterface wClass).bind fun ifc => fresh.bind fun n => (superOr ifc).bind fun sup => (ifacesOf (if ifc = true then wExtends else wImplements)).bind fun ifs =>
 (want wLB).bind fun _ => (members 12 [] []).bind fun m => .ret ⟨n, ifc, sup, ifs, m.1, m.2⟩
theorem cls_open : cls = clsOpen.bind fun c => (want wRB).bind fun _ => .ret c := rfl
end Pp
end Go.Proofs.YtbbbnciejmdpfabGreatDoor
namespace Go.Proofs.YtbbbnciejmdpfabGreatDoor
namespace Pp
end Pp
end Go.Proofs.YtbbbnciejmdpfabGreatDoor
namespace Go.Proofs.YtbbbnciejmdpfabGreatDoor
namespace Pp
theorem has_end (P : List Wd) (s : St) (q : Wd -> Bool) (h : s.i = P.length) : has P s q = false := by
 unfold has cur
 split
 · rename_i t ht
   split at ht
   · rw [List.getElem?_eq_none (by omega)] at ht; cases ht
   · cases ht
 · rfl
structure Good {α : Type} (p : Pr α) : Prop where
 law : Law p
 fin : ∀ (P : List Wd) (s : St), s.e = 0 -> s.i = P.length -> (p.run P s).2.i = P.length /\ ((p.run P s).2.e = 0 \/ (p.run P s).2.e = 4)
 cut : ∀ (P R : List Wd) (s : St), s.e = 0 -> s.i <= P.length -> (p.run (P ++ R) s).2.e = 0 ->
  (p.run P s = p.run (P ++ R) s /\ (p.run (P ++ R) s).2.i <= P.length) \/ ((p.run P s).2.i = P.length /\ ((p.run P s).2.e = 0 \/ (p.run P s).2.e = 4))
section
variable {α β : Type}
theorem Good.ret (a : α) : Good (Pr.ret a) := ⟨Law.ret a, fun P s he hi => ⟨hi, .inl he⟩, fun P R s he hi h => .inl ⟨rfl, hi⟩⟩
theorem fail_run {p : Pr α} (hp : Law p) {k : Int} (hk : k ≠ 0) (C : List Wd) (s : St) (he : s.e = 0) : ((Pr.fail k p).run C s).2 = ⟨s.i, k⟩ := by
 rw [run_fail, show failS s k = ⟨s.i, k⟩ from by simp [failS, he], hp.stuck _ _ hk]
theorem Good.fail {p : Pr α} (hp : Law p) : Good (Pr.fail 4 p) :=
 ⟨Law.fail hp 4, fun P s he hi => by rw [fail_run hp (by decide) P s he]; exact ⟨hi, .inr rfl⟩,
  fun P R s he hi h => by rw [fail_run hp (by decide) _ s he] at h; cases h⟩
theorem Good.test {y : Wd -> Pr α} {n : Pr α} (hy : ∀ t, Good (y t)) (hn : Good n) (q : Wd -> Bool) : Good (Pr.test q y n) := by
 have hfin : ∀ (P : List Wd) (s : St), s.e = 0 -> s.i = P.length -> ((Pr.test q y n).run P s).2.i = P.length /\ (((Pr.test q y n).run P s).2.e = 0 \/ ((Pr.test q y n).run P s).2.e = 4) := fun P s he hi => by
  rw [run_test_no _ _ _ _ _ (has_end P s q hi)]; exact hn.fin P s he hi
 refine ⟨Law.test (fun t => (hy t).law) hn.law q, hfin, fun P R s he hi h => ?_⟩
 rcases Nat.lt_or_ge s.i P.length with hl | hl
 · have h0 : P[s.i]? = (P ++ R)[s.i]? := (List.getElem?_append_left hl).symm
   cases hh : has (P ++ R) s q with
   | true =>
     obtain ⟨t, ht, _, _⟩ := has_cur hh; rw [run_test (P ++ R) q y n s t hh ht] at h ⊢; rw [run_test P q y n s t (by rw [has_same h0]; exact hh) (by rw [cur_same h0]; exact ht)]
     exact (hy t).cut P R s.adv he hl h
   | false =>
     rw [run_test_no (P ++ R) q y n s hh] at h ⊢; rw [run_test_no P q y n s (by rw [has_same h0]; exact hh)]
     exact hn.cut P R s he hi h
 · exact .inr (hfin P s he (by omega))
theorem Good.peek {y n : Pr α} (hy : Good y) (hn : Good n) (q : Wd -> Bool) : Good (Pr.peek q y n) := by
 have hfin : ∀ (P : List Wd) (s : St), s.e = 0 -> s.i = P.length -> ((Pr.peek q y n).run P s).2.i = P.length /\ (((Pr.peek q y n).run P s).2.e = 0 \/ ((Pr.peek q y n).run P s).2.e = 4) := fun P s he hi => by
  rw [run_peek_no (has_end P s q hi)]; exact hn.fin P s he hi
 refine ⟨Law.peek hy.law hn.law q, hfin, fun P R s he hi h => ?_⟩
 rcases Nat.lt_or_ge s.i P.length with hl | hl
 · have h0 : P[s.i]? = (P ++ R)[s.i]? := (List.getElem?_append_left hl).symm
   cases hh : has (P ++ R) s q with
   | true =>
     rw [run_peek_yes hh] at h ⊢; rw [run_peek_yes (by rw [has_same h0]; exact hh)]
     exact hy.cut P R s he hi h
   | false =>
     rw [run_peek_no hh] at h ⊢; rw [run_peek_no (by rw [has_same h0]; exact hh)]
     exact hn.cut P R s he hi h
 · exact .inr (hfin P s he (by omega))
theorem Good.bind {p : Pr α} {f : α -> Pr β} (hp : Good p) (hf : ∀ a, Good (f a)) : Good (p.bind f) := by
 refine ⟨Law.bind hp.law fun a => (hf a).law, fun P s he hi => ?_, fun P R s he hi h => ?_⟩
 · rw [run_bind]
   obtain ⟨h1, h2 | h2⟩ := hp.fin P s he hi
   · exact (hf _).fin P _ h2 h1
   · rw [(hf _).law.stuck P _ (by rw [h2]; decide)]; exact ⟨h1, .inr h2⟩
 · rw [run_bind] at h ⊢
   rw [run_bind]
   have he1 : (p.run (P ++ R) s).2.e = 0 := by
    rcases Decidable.em ((p.run (P ++ R) s).2.e = 0) with h1 | h1
    · exact h1
    · rw [(hf _).law.stuck _ _ h1] at h; exact absurd h h1
   rcases hp.cut P R s he hi he1 with ⟨h1, h2⟩ | ⟨h1, h2 | h2⟩
   · rw [h1]
     exact (hf _).cut P R _ he1 h2 h
   · exact .inr ((hf _).fin P _ h2 h1)
   · right
     rw [(hf _).law.stuck P _ (by rw [h2]; decide)]; exact ⟨h1, .inr h2⟩
end
end Pp
end Go.Proofs.YtbbbnciejmdpfabGreatDoor
namespace Go.Proofs.YtbbbnciejmdpfabGreatDoor
namespace Pp
def nm (s : Bs) : Wd := ⟨1, s, 0⟩
def sg (s : Bs) : Wd := ⟨3, s, 0⟩
def tyW (t : Ty) : List Wd := if t.kind = 1 then [nm wVoid] else if t.kind = 2 then [nm wInt] else if t.kind = 4 then [nm wInt, sg wLK, sg wRK] else if t.kind = 3 then [nm t.name] else if t.kind = 5 then [nm t.name, sg wLK, sg wRK] else []
def okN (s : Bs) : Prop := Lx.nameL s = true /\ keptL s = false
def okTy (t : Ty) : Prop := ((t.kind = 1 \/ t.kind = 2 \/ t.kind = 4) /\ t.name = []) \/ ((t.kind = 3 \/ t.kind = 5) /\ okN t.name)
def hd (l : List Wd) (q : Wd -> Bool) : Bool := match l with
 | [] => false
 | w :: _ => q w
theorem has_at (A l : List Wd) (q : Wd -> Bool) : has (A ++ l) ⟨A.length, 0⟩ q = hd l q := by
 unfold has cur hd; simp only [if_true]; rw [List.getElem?_append_right (Nat.le_refl _), Nat.sub_self]; cases l <;> rfl
def Reads {α : Type} (p : Pr α) (ws rest : List Wd) (a : α) : Prop := ∀ A : List Wd, p.run (A ++ (ws ++ rest)) ⟨A.length, 0⟩ = (a, ⟨A.length + ws.length, 0⟩)
section
variable {α β : Type}
theorem Reads.ret (a : α) (rest : List Wd) : Reads (Pr.ret a) [] rest a := fun A => rfl
theorem Reads.bind {p : Pr α} {f : α -> Pr β} {u v rest : List Wd} {a : α} {b : β} (hp : Reads p u (v ++ rest) a) (hf : Reads (f a) v rest b) : Reads (p.bind f) (u ++ v) rest b := fun A => by
 rw [run_bind, List.append_assoc, hp A]; have h := hf (A ++ u); rw [List.append_assoc, List.length_append] at h; rw [h, List.length_append, Nat.add_assoc]
theorem Reads.test {q : Wd -> Bool} {y : Wd -> Pr α} {n : Pr α} {w : Wd} {ws rest : List Wd} {a : α} (hq : q w = true) (hy : Reads (y w) ws rest a) : Reads (Pr.test q y n) (w :: ws) rest a := fun A => by
 rw [test_run, if_pos (by rw [has_at]; exact hq)]
 have hc : cur (A ++ (w :: ws ++ rest)) ⟨A.length, 0⟩ = some w := by
  unfold cur; simp only [if_true]; rw [List.getElem?_append_right (Nat.le_refl _), Nat.sub_self]; rfl
 rw [hc]; have h := hy (A ++ [w]); rw [List.append_assoc, List.length_append] at h; show (y w).run (A ++ (w :: ws ++ rest)) ⟨A.length + 1, 0⟩ = _; have e : A ++ (w :: ws ++ rest) = A ++ ([w] ++ (ws ++ rest)) := rfl; rw [e]; refine h.trans ?_; simp only [List.length_cons, List.length_nil, Nat.zero_add, Prod.mk.injEq, true_and]
 congr 1
 omega
theorem Reads.peek {q : Wd -> Bool} {y n : Pr α} {ws rest : List Wd} {a : α} (hq : hd (ws ++ rest) q = true) (hy : Reads y ws rest a) : Reads (Pr.peek q y n) ws rest a := fun A => by
 rw [peek_run, if_pos (by rw [has_at, hq])]; exact hy A
end
end Pp
end Go.Proofs.YtbbbnciejmdpfabGreatDoor
namespace Go.Proofs.YtbbbnciejmdpfabGreatDoor
namespace Pp
def VW (C : List Wd) : Prop := ∀ w ∈ C, w.kind = 1 -> Lx.nameL w.text = true
def Ens {α : Type} (p : Pr α) (P : α -> Prop) : Prop := ∀ C s, VW C -> (p.run C s).2.e = 0 -> P (p.run C s).1
section
variable {α β : Type}
theorem Ens.ret {a : α} {P : α -> Prop} (h : P a) : Ens (Pr.ret a) P := fun _ _ _ _ => h
theorem Ens.fail {p : Pr α} {P : α -> Prop} (hp : Law p) {k : Int} (hk : k ≠ 0) : Ens (Pr.fail k p) P := fun C s _ h => by
 exfalso; rw [run_fail] at h; by_cases he : s.e = 0
 · rw [show failS s k = ⟨s.i, k⟩ from by simp [failS, he], hp.stuck _ _ hk] at h
   exact hk h
 · rw [failS_off s k he, hp.stuck _ _ he] at h
   exact he h
theorem Ens.test {q : Wd -> Bool} {y : Wd -> Pr α} {n : Pr α} {P : α -> Prop} (hy : ∀ t, (t.kind = 1 -> Lx.nameL t.text = true) -> q t = true -> Ens (y t) P) (hn : Ens n P) : Ens (Pr.test q y n) P := fun C s hC h => by
 cases hh : has C s q with
 | true =>
   obtain ⟨t, ht, hq, he⟩ := has_cur hh; rw [run_test C q y n s t hh ht] at h ⊢; refine hy t (hC t ?_) hq C s.adv hC h; unfold cur at ht; rw [if_pos he] at ht; exact List.mem_of_getElem? ht
 | false =>
   rw [run_test_no C q y n s hh] at h ⊢; exact hn C s hC h
theorem Ens.peek {q : Wd -> Bool} {y n : Pr α} {P : α -> Prop} (hy : Ens y P) (hn : Ens n P) : Ens (Pr.peek q y n) P := fun C s hC h => by
 cases hh : has C s q with
 | true => rw [run_peek_yes hh] at h ⊢; exact hy C s hC h
 | false => rw [run_peek_no hh] at h ⊢; exact hn C s hC h
theorem Ens.bind {p : Pr α} {f : α -> Pr β} {Q : α -> Prop} {P : β -> Prop} (hp : Ens p Q) (hl : ∀ a, Law (f a)) (hf : ∀ a, Q a -> Ens (f a) P) : Ens (p.bind f) P := fun C s hC h => by
 rw [run_bind] at h ⊢
 have he : (p.run C s).2.e = 0 := by
  rcases Decidable.em ((p.run C s).2.e = 0) with h1 | h1
  · exact h1
  · rw [(hl _).stuck C _ h1] at h; exact absurd h h1
 exact hf _ (hp C s hC he) C _ hC h
theorem Ens.any (p : Pr α) : Ens p (fun _ => True) := fun _ _ _ _ => trivial
theorem Ens.mono {p : Pr α} {P Q : α -> Prop} (h : Ens p P) (hq : ∀ a, P a -> Q a) : Ens p Q := fun C s hC he => hq _ (h C s hC he)
end
end Pp
namespace Lx
theorem nameL_iff (l : List UInt8) : nameL l = true ↔ 1 <= l.length /\ l.length <= 20 /\ dig (l.getD 0 0) = false /\ l.all inw = true := by
 cases l with
 | nil => simp [nameL]
 | cons c r =>
   simp only [nameL, Bool.and_eq_true, decide_eq_true_eq, Bool.not_eq_true', List.length_cons, List.getD_cons_zero]; constructor
   · rintro ⟨⟨h1, h2⟩, h3⟩; exact ⟨by omega, by omega, h2, h3⟩
   · rintro ⟨_, h1, h2, h3⟩; exact ⟨⟨by omega, h2⟩, h3⟩
end Lx
end Go.Proofs.YtbbbnciejmdpfabGreatDoor
namespace Go.Proofs.YtbbbnciejmdpfabGreatDoor
namespace Lx
def dg (n : Nat) : UInt8 := UInt8.ofNat (48 + n % 10)
def digF : Nat -> Nat -> List UInt8
 | 0, n => [dg n]
 | f + 1, n => if n < 10 then [dg n] else digF f (n / 10) ++ [dg n]
def digL (n : Nat) : List UInt8 := digF 19 n
def intL (n : Int) : List UInt8 := if n < 0 then 45 :: digL n.natAbs else digL n.natAbs
end Lx
end Go.Proofs.YtbbbnciejmdpfabGreatDoor
namespace Go.Proofs.YtbbbnciejmdpfabGreatDoor
namespace Lx
def ltrI (c : Int) : Bool := decide ((97 <= c /\ c <= 122) \/ (65 <= c /\ c <= 90) \/ c = 95)
def ltr (u : UInt8) : Bool := ltrI (u.toNat : Int)
theorem inw_let (u : UInt8) : inw u = (ltr u || dig u) := by
 rw [Bool.eq_iff_iff]; simp [inw, ltr, dig, inwI, ltrI, digI]; omega
theorem let_inw (u : UInt8) : ltr u = (!dig u && inw u) := by
 rw [Bool.eq_iff_iff]; simp [inw, ltr, dig, inwI, ltrI, digI]; omega
end Lx
end Go.Proofs.YtbbbnciejmdpfabGreatDoor
namespace Go.Proofs.YtbbbnciejmdpfabGreatDoor
namespace Lx
structure ATok where
 kind : Int
 text : List UInt8
 num : Int
 pos : Int
def wordA (t : ATok) : Option (List UInt8) :=
 if t.kind = 1 then (if t.num = 0 /\ nameL t.text = true then some t.text else none)
 else if t.kind = 2 then (if t.text = [] /\ -2147483648 <= t.num /\ t.num <= 2147483647 then some (intL t.num) else none)
 else if t.kind = 3 then (if t.num = 0 /\ signL t.text = true then some t.text else none)
 else none
end Lx
end Go.Proofs.YtbbbnciejmdpfabGreatDoor
namespace Go.Proofs.YtbbbnciejmdpfabGreatDoor
namespace Lx
end Lx
namespace Pp
structure XIns where
 op : Int
 n : Int
 a : Bs
 b : Bs
structure XMth where
 name : Bs
 stat : Bool
 abst : Bool
 params : List Ty
 ret : Ty
 locals : Int
 code : List XIns
 catches : List Ctc
structure XCls where
 name : Bs
 iface : Bool
 super : Bs
 ifaces : List Bs
 fields : List Fld
 methods : List XMth
def freshB (s : Bs) : Bool := Lx.nameL s && !keptL s
theorem freshB_iff (s : Bs) : freshB s = true ↔ okN s := by simp [freshB, okN]
def typeB (t : Ty) : Bool := if t.kind = 1 \/ t.kind = 2 \/ t.kind = 4 then t.name == [] else if t.kind = 3 \/ t.kind = 5 then freshB t.name else false
theorem typeB_iff (t : Ty) : typeB t = true ↔ okTy t := by
 unfold typeB okTy; by_cases h1 : t.kind = 1 \/ t.kind = 2 \/ t.kind = 4
 · rw [if_pos h1]
   constructor
   · intro h; exact .inl ⟨h1, by simpa using h⟩
   · rintro (⟨_, h⟩ | ⟨h, _⟩)
     · simp [h]
     · omega
 · rw [if_neg h1]
   by_cases h2 : t.kind = 3 \/ t.kind = 5
   · rw [if_pos h2, freshB_iff]
     constructor
     · intro h; exact .inr ⟨h2, h⟩
     · rintro (⟨h, _⟩ | ⟨_, h⟩)
       · exact absurd h h1
       · exact h
   · rw [if_neg h2]
     constructor
     · intro h; cases h
     · rintro (⟨h, _⟩ | ⟨h, _⟩)
       · exact absurd h h1
       · exact absurd h h2
def withinB (n lo hi : Int) : Bool := decide (lo <= n) && decide (n <= hi)
def eachB {α : Type} (l : List α) (most : Nat) (f : α -> Bool) : Bool := decide (l.length <= most) && l.all f
def fldB (f : Fld) : Bool := freshB f.name && typeB f.ty
def argsX (op : Int) : Bool × Int × Int × Int :=
 if op = 1 then (true, -2147483648, 2147483647, 0) else if op = 3 \/ op = 4 then (true, 0, 7, 0) else if 14 <= op /\ op <= 26 then (true, 0, 47, 0)
 else if op = 27 \/ op = 33 \/ op = 37 \/ op = 38 then (false, 0, 0, 1) else if (28 <= op /\ op <= 31) \/ op = 39 \/ op = 40 then (false, 0, 0, 2) else (false, 0, 0, 0)
def argB (s : Bs) (has : Bool) : Bool := if has = true then freshB s else s == []
def insB (i : XIns) : Bool := (decide (0 <= i.op) && decide (i.op < 44)) && (withinB i.n (argsX i.op).2.1 (argsX i.op).2.2.1 && (argB i.a (decide (1 <= (argsX i.op).2.2.2)) && argB i.b (decide (2 <= (argsX i.op).2.2.2))))
def ctcB (c : Ctc) : Bool := freshB c.name && (withinB c.lo 0 48 && (withinB c.hi 0 48 && withinB c.pc 0 48))
def bodyB (m : XMth) : Bool := if m.abst = true then m.locals == 0 && (m.code.isEmpty && m.catches.isEmpty) else withinB m.locals 0 8 && (eachB m.code 48 insB && eachB m.catches 4 ctcB)
def mthB (m : XMth) : Bool := freshB m.name && (eachB m.params 4 typeB && (typeB m.ret && bodyB m))
def supB (c : XCls) : Bool := c.super == [] || (!c.iface && freshB c.super)
def clsB (c : XCls) : Bool := freshB c.name && (supB c && (eachB c.ifaces 4 freshB && (eachB c.fields 6 fldB && eachB c.methods 6 mthB)))
def progB (cs : List XCls) : Bool := eachB cs 10 clsB
theorem withinB_iff (n lo hi : Int) : withinB n lo hi = true ↔ lo <= n /\ n <= hi := by simp [withinB]
theorem eachB_iff {α : Type} (l : List α) (most : Nat) (f : α -> Bool) : eachB l most f = true ↔ l.length <= most /\ ∀ x ∈ l, f x = true := by simp [eachB]
theorem argsX_shape (k : Nat) (hk : k < 44) : argsX (k : Int) = if shape k = 1 then (true, -2147483648, 2147483647, 0) else if shape k = 2 then (true, 0, 7, 0) else if shape k = 3 then (true, 0, 47, 0) else if shape k = 4 then (false, 0, 0, 1) else if shape k = 5 then (false, 0, 0, 2) else (false, 0, 0, 0) := by
 revert k; decide +kernel
theorem shape_le (k : Nat) : shape k <= 5 := by unfold shape; repeat (first | split | omega)
def wtx (w : Wd) : Bs := if w.kind = 2 then Lx.intL w.num else w.text
end Pp
open Go.RowKit
def RowX {α : Type} (w : World) (sz : Nat) (P : α -> List Value -> Prop) (v : Value) (l : List α) : Prop :=
 ∃ a c, v = .slice a l.length c /\ l.length <= c /\ (l = [] \/ ∃ b o, a = some ⟨b, o, none⟩ /\ b < w.heap.size /\ ∀ (k : Nat) (x : α), l[k]? = some x -> ∃ ys, P x ys /\ ∀ (j : Nat) (u : Value), ys[j]? = some u -> w.cell? ⟨b, o + k * sz + j, none⟩ = some u)
theorem RowX.on {α : Type} {w w' : World} {sz : Nat} {P P' : α -> List Value -> Prop} {v : Value} {l : List α} (h : RowX w sz P v l) (hb : Below w.heap.size w w') (hp : ∀ x ys, P x ys -> P' x ys) : RowX w' sz P' v l := by
 obtain ⟨a, c, rfl, hc, h⟩ := h; refine ⟨a, c, rfl, hc, ?_⟩
 rcases h with h | ⟨b, o, rfl, hlt, hx⟩
 · exact .inl h
 · refine .inr ⟨b, o, rfl, Nat.lt_of_lt_of_le hlt hb.size, fun k x hk => ?_⟩
   obtain ⟨ys, h1, h2⟩ := hx k x hk; exact ⟨ys, hp x ys h1, fun j u hj => (hb.cell (by exact hlt)).trans (h2 j u hj)⟩
theorem RowX.len {α : Type} {w : World} {sz : Nat} {P : α -> List Value -> Prop} {v : Value} {l : List α} (h : RowX w sz P v l) : ∃ a c, v = .slice a l.length c /\ l.length <= c := by
 obtain ⟨a, c, h1, h2, _⟩ := h; exact ⟨a, c, h1, h2⟩
def strL (s : Pp.Bs) : List Value := [.string ⟨s.toArray⟩]
def tyL (t : Pp.Ty) : List Value := [.int .i64 t.kind, .string ⟨t.name.toArray⟩]
def fldL (f : Pp.Fld) : List Value := [.string ⟨f.name.toArray⟩, .int .i64 f.ty.kind, .string ⟨f.ty.name.toArray⟩, .bool f.stat]
def insL (x : Pp.XIns) : List Value := [.int .i64 x.op, .int .i64 x.n, .string ⟨x.a.toArray⟩, .string ⟨x.b.toArray⟩]
def ctcL (c : Pp.Ctc) : List Value := [.string ⟨c.name.toArray⟩, .int .i64 c.lo, .int .i64 c.hi, .int .i64 c.pc]
def mthXL (m : Pp.XMth) (vp vc vk : Value) : List Value := [.string ⟨m.name.toArray⟩, .bool m.stat, .bool m.abst, vp, .int .i64 m.ret.kind, .string ⟨m.ret.name.toArray⟩, .int .i64 m.locals, vc, vk]
def clsXL (c : Pp.XCls) (vi vf vm : Value) : List Value := [.string ⟨c.name.toArray⟩, .bool c.iface, .string ⟨c.super.toArray⟩, vi, vf, vm]
def StrX (s : Pp.Bs) (ys : List Value) : Prop := ys = strL s /\ s.length <= maxLen
def TyX (t : Pp.Ty) (ys : List Value) : Prop := ys = tyL t /\ t.name.length <= maxLen
def FldX (f : Pp.Fld) (ys : List Value) : Prop := ys = fldL f /\ f.name.length <= maxLen /\ f.ty.name.length <= maxLen
def InsX (x : Pp.XIns) (ys : List Value) : Prop := ys = insL x /\ x.a.length <= maxLen /\ x.b.length <= maxLen
def CtcX (c : Pp.Ctc) (ys : List Value) : Prop := ys = ctcL c /\ c.name.length <= maxLen
def MthX (w : World) (m : Pp.XMth) (ys : List Value) : Prop := ∃ vp vc vk, ys = mthXL m vp vc vk /\ RowX w 2 TyX vp m.params /\ RowX w 4 InsX vc m.code /\ RowX w 4 CtcX vk m.catches /\
 m.name.length <= maxLen /\ m.ret.name.length <= maxLen /\ m.params.length <= maxLen /\ m.code.length <= maxLen /\ m.catches.length <= maxLen
def ClsX (w : World) (c : Pp.XCls) (ys : List Value) : Prop := ∃ vi vf vm, ys = clsXL c vi vf vm /\ RowX w 1 StrX vi c.ifaces /\ RowX w 4 FldX vf c.fields /\ RowX w 9 (MthX w) vm c.methods /\
 c.name.length <= maxLen /\ c.super.length <= maxLen /\ c.ifaces.length <= maxLen /\ c.fields.length <= maxLen /\ c.methods.length <= maxLen
def ProgX (w : World) (v : Value) (cs : List Pp.XCls) : Prop := RowX w 6 (ClsX w) v cs /\ cs.length <= maxLen
theorem MthX.on {w w' : World} {m : Pp.XMth} {ys : List Value} (h : MthX w m ys) (hb : Below w.heap.size w w') : MthX w' m ys := by
 obtain ⟨vp, vc, vk, rfl, h1, h2, h3, h4⟩ := h; exact ⟨vp, vc, vk, rfl, h1.on hb fun _ _ h => h, h2.on hb fun _ _ h => h, h3.on hb fun _ _ h => h, h4⟩
theorem ClsX.on {w w' : World} {c : Pp.XCls} {ys : List Value} (h : ClsX w c ys) (hb : Below w.heap.size w w') : ClsX w' c ys := by
 obtain ⟨vi, vf, vm, rfl, h1, h2, h3, h4⟩ := h; exact ⟨vi, vf, vm, rfl, h1.on hb fun _ _ h => h, h2.on hb fun _ _ h => h, h3.on hb fun _ _ h => h.on hb, h4⟩
theorem ProgX.on {w w' : World} {v : Value} {cs : List Pp.XCls} (h : ProgX w v cs) (hb : Below w.heap.size w w') : ProgX w' v cs := ⟨RowX.on h.1 hb fun _ _ h => h.on hb, h.2⟩
theorem cell_box {w : World} {b : Nat} {c : Array Value} {t : TypeId} {f : Nat × Nat} (h : w.heap[b]? = some (.cells c t f)) (k : Nat) : w.cell? ⟨b, k, none⟩ = c[k]? := cell_of_row w b k c t f h
theorem box_one {w w' : World} {c1 : Array Value} {t1 : TypeId} (hb : Below (w.alloc (.cells c1 t1)).heap.size (w.alloc (.cells c1 t1)) w') :
 (∀ k, w'.cell? ⟨w.heap.size, k, none⟩ = c1[k]?) /\ Below w.heap.size w w' /\ w.heap.size < w'.heap.size := by
 refine ⟨fun k => ?_, ((Below.refl _ _).alloc (Nat.le_refl _) _).trans (hb.mono (by simp)), by have := hb.size; simp at this; omega⟩
 refine cell_box (t := t1) (f := (0, 0)) ?_ k; rw [hb.block w.heap.size (by simp)]
 exact heap_alloc_new w _
namespace Pp
def LtF (f : Fld) : Prop := f.name.length <= 60 /\ f.ty.name.length <= 60
def LtI (x : XIns) : Prop := x.a.length <= 60 /\ x.b.length <= 60
def LtT (t : Ty) : Prop := t.name.length <= 60
def LtK (c : Ctc) : Prop := c.name.length <= 60
def LtS (s : Bs) : Prop := s.length <= 60
def LtM (m : XMth) : Prop := (m.name.length <= 60 /\ m.params.length <= 10 /\ m.code.length <= 60 /\ m.catches.length <= 10 /\ m.ret.name.length <= 60) /\ (∀ x ∈ m.code, LtI x) /\ (∀ t ∈ m.params, LtT t) /\ (∀ c ∈ m.catches, LtK c)
def LtC (c : XCls) : Prop := (c.fields.length <= 14 /\ c.methods.length <= 14 /\ c.ifaces.length <= 10 /\ c.name.length <= 60 /\ c.super.length <= 60) /\ (∀ f ∈ c.fields, LtF f) /\ (∀ s ∈ c.ifaces, LtS s) /\ (∀ m ∈ c.methods, LtM m)
def Light (cs : List XCls) : Prop := cs.length <= 14 /\ ∀ c ∈ cs, LtC c
theorem all_take {α : Type} {P : α -> Prop} {l : List α} {k : Nat} {x : α} (h : ∀ y ∈ l.take k, P y) (hx : l[k]? = some x) (hp : P x) : ∀ y ∈ l.take (k + 1), P y := by
 rw [List.take_add_one, hx]; intro y hy; rw [List.mem_append] at hy
 rcases hy with hy | hy
 · exact h y hy
 · simp at hy; subst hy; exact hp
theorem all_end {α : Type} {P : α -> Prop} {l : List α} {k : Nat} (h : ∀ y ∈ l.take k, P y) (hk : l.length <= k) : ∀ y ∈ l, P y := by
 rw [List.take_of_length_le hk] at h; exact h
end Pp
end Go.Proofs.YtbbbnciejmdpfabGreatDoor

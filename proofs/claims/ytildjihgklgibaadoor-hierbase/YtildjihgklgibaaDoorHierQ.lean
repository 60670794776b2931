/- What is met by steps up from a place: the loop's invariants. -/
import Derived.Test.YtildjihgklgibaaDoorHierP
namespace Go.Proofs.YtildjihgklgibaaDoor
set_option linter.unusedVariables false
set_option linter.unusedSimpArgs false
namespace Hr
def M (ms : List Bool) (j : Nat) : Prop := ms[j]? = some true
def unm (ms : List Bool) : Nat := ms.countP fun b => !b
structure Inv (up : List (List Nat)) (n a : Nat) (ms : List Bool) (rs : List Nat) : Prop where
  far : ∀ j, M ms j → Far up a j
  org : ∀ r ∈ rs, r = a ∨ M ms r
  fin : ∀ x, (x = a ∨ M ms x) → x ∈ rs ∨ ∀ y, Step up x y → M ms y
  len : ms.length = n
  low : ∀ r ∈ rs, r < n
  few : rs.length + unm ms ≤ n + 1
structure Mid (up : List (List Nat)) (n a f : Nat) (u : List Nat) (k : Nat) (ms : List Bool) (rs : List Nat) : Prop where
  far : ∀ j, M ms j → Far up a j
  org : ∀ r ∈ rs, r = a ∨ M ms r
  fin : ∀ x, (x = a ∨ M ms x) → x ∈ rs ∨ x = f ∨ ∀ y, Step up x y → M ms y
  don : ∀ y ∈ u.take k, M ms y
  frm : f = a ∨ M ms f
  len : ms.length = n
  low : ∀ r ∈ rs, r < n
  few : rs.length + unm ms ≤ n + 1
theorem unm_rep (n : Nat) : unm (List.replicate n false) = n := by unfold unm; rw [List.countP_replicate]; rfl
theorem Inv.start (up : List (List Nat)) (n a : Nat) (h : a < n) : Inv up n a (List.replicate n false) [a] where
  far := by intro j hj; unfold M at hj; rw [List.getElem?_replicate] at hj; split at hj <;> cases hj
  org := by intro r hr; simp at hr; exact .inl hr
  fin := by
    intro x hx
    rcases hx with rfl | hx
    · exact .inl (by simp)
    · unfold M at hx; rw [List.getElem?_replicate] at hx; split at hx <;> cases hx
  len := by simp
  low := by intro r hr; simp at hr; omega
  few := by rw [unm_rep]; simp; omega
theorem Inv.stop {up : List (List Nat)} {n a : Nat} {ms : List Bool} (h : Inv up n a ms []) (j : Nat) : M ms j ↔ Far up a j := by
  refine ⟨h.far j, fun hf => ?_⟩
  have key : ∀ x, (x = a ∨ M ms x) → ∀ y, Step up x y → M ms y := fun x hx => by
    rcases h.fin x hx with h | h
    · cases h
    · exact h
  refine Far.ind (C := fun i j => i = a → M ms j) (fun s e => key a (.inl rfl) _ (e ▸ s)) (fun _ s ih e => key _ (.inr (ih e)) _ s) hf rfl
theorem Inv.pop {up : List (List Nat)} {n a f : Nat} {ms : List Bool} {rs : List Nat} (u : List Nat) (h : Inv up n a ms (rs ++ [f])) : Mid up n a f u 0 ms rs where
  far := h.far
  org := fun r hr => h.org r (List.mem_append_left _ hr)
  fin := by
    intro x hx
    rcases h.fin x hx with h | h
    · rcases List.mem_append.1 h with h | h
      · exact .inl h
      · exact .inr (.inl (by simpa using h))
    · exact .inr (.inr h)
  don := by intro y hy; simp at hy
  frm := h.org f (by simp)
  len := h.len
  low := fun r hr => h.low r (List.mem_append_left _ hr)
  few := by have := h.few; simp at this; omega
theorem Mid.stop {up : List (List Nat)} {n a f : Nat} {u : List Nat} {k : Nat} {ms : List Bool} {rs : List Nat} (h : Mid up n a f u k ms rs) (hu : up[f]? = some u) (hk : u.length ≤ k) : Inv up n a ms rs where
  far := h.far
  org := h.org
  fin := by
    intro x hx
    rcases h.fin x hx with h1 | rfl | h1
    · exact .inl h1
    · refine .inr fun y ⟨u', hu', hy⟩ => ?_
      rw [hu] at hu'; cases hu'
      exact h.don y (by rw [List.take_of_length_le hk]; exact hy)
    · exact .inr h1
  len := h.len
  low := h.low
  few := h.few
theorem Mid.skip {up : List (List Nat)} {n a f : Nat} {u : List Nat} {k : Nat} {ms : List Bool} {rs : List Nat} {y : Nat} (h : Mid up n a f u k ms rs) (hy : u[k]? = some y) (hm : M ms y) : Mid up n a f u (k + 1) ms rs where
  far := h.far
  org := h.org
  fin := h.fin
  don := by
    intro z hz
    rw [List.take_add_one, hy] at hz
    rcases List.mem_append.1 hz with hz | hz
    · exact h.don z hz
    · simp at hz; subst hz; exact hm
  frm := h.frm
  len := h.len
  low := h.low
  few := h.few
theorem M_set {ms : List Bool} {y : Nat} (hy : y < ms.length) (j : Nat) : M (ms.set y true) j ↔ j = y ∨ M ms j := by
  unfold M
  rw [List.getElem?_set]
  by_cases e : y = j
  · subst e; simp [hy]
  · simp [e]; intro h; exact absurd h.symm e
theorem unm_set : ∀ {ms : List Bool} {y : Nat}, y < ms.length → ¬ M ms y → unm ms = unm (ms.set y true) + 1
  | [], _, h, _ => absurd h (Nat.not_lt_zero _)
  | b :: ms, 0, _, h => by
    cases b with
    | true => exact absurd rfl h
    | false => simp [unm]
  | b :: ms, y + 1, h, hm => by
    have := unm_set (ms := ms) (y := y) (by simpa using h) (by simpa [M] using hm)
    unfold unm at *
    rw [List.set_cons_succ, List.countP_cons, List.countP_cons]
    omega
theorem Mid.push {up : List (List Nat)} {n a f : Nat} {u : List Nat} {k : Nat} {ms : List Bool} {rs : List Nat} {y : Nat} (h : Mid up n a f u k ms rs) (hu : up[f]? = some u) (hy : u[k]? = some y) (hn : y < n) (hm : ¬ M ms y) : Mid up n a f u (k + 1) (ms.set y true) (rs ++ [y]) := by
  have hl : y < ms.length := by rw [h.len]; exact hn
  have hs : Step up f y := ⟨u, hu, List.mem_of_getElem? hy⟩
  refine ⟨?_, ?_, ?_, ?_, ?_, by simpa using h.len, ?_, ?_⟩
  · intro j hj
    rcases (M_set hl j).1 hj with rfl | hj
    · rcases h.frm with rfl | h1
      · exact .one hs
      · exact .more (h.far _ h1) hs
    · exact h.far j hj
  · intro r hr
    rcases List.mem_append.1 hr with hr | hr
    · rcases h.org r hr with h1 | h1
      · exact .inl h1
      · exact .inr ((M_set hl r).2 (.inr h1))
    · simp at hr; subst hr; exact .inr ((M_set hl r).2 (.inl rfl))
  · intro x hx
    by_cases hxy : x = y
    · exact .inl (by simp [hxy])
    · have hx' : x = a ∨ M ms x := by
        rcases hx with hx | hx
        · exact .inl hx
        · rcases (M_set hl x).1 hx with h1 | h1
          · exact absurd h1 hxy
          · exact .inr h1
      rcases h.fin x hx' with h1 | h1 | h1
      · exact .inl (List.mem_append_left _ h1)
      · exact .inr (.inl h1)
      · exact .inr (.inr fun z hz => (M_set hl z).2 (.inr (h1 z hz)))
  · intro z hz
    rw [List.take_add_one, hy] at hz
    rcases List.mem_append.1 hz with hz | hz
    · exact (M_set hl z).2 (.inr (h.don z hz))
    · simp at hz; subst hz; exact (M_set hl z).2 (.inl rfl)
  · rcases h.frm with h1 | h1
    · exact .inl h1
    · exact .inr ((M_set hl f).2 (.inr h1))
  · intro r hr
    rcases List.mem_append.1 hr with hr | hr
    · exact h.low r hr
    · simp at hr; subst hr; exact hn
  · have h1 := h.few
    have h2 := unm_set hl hm
    simp
    omega
def stepB (x : List Bool × List Nat) (y : Nat) : List Bool × List Nat := if x.1[y]? = some true then x else (x.1.set y true, x.2 ++ [y])
def goB (up : List (List Nat)) : Nat → List Bool → List Nat → List Bool
  | 0, ms, _ => ms
  | n + 1, ms, rs => match rs.getLast? with
    | none => ms
    | some f => goB up n (((up[f]?).getD []).foldl stepB (ms, rs.dropLast)).1 (((up[f]?).getD []).foldl stepB (ms, rs.dropLast)).2
theorem fold_mid {up : List (List Nat)} {n a f : Nat} {u : List Nat} (hu : up[f]? = some u) (hl : ∀ k ∈ u, k < n) : ∀ (k : Nat) (ms : List Bool) (rs : List Nat), k ≤ u.length → Mid up n a f u k ms rs → Mid up n a f u u.length ((u.drop k).foldl stepB (ms, rs)).1 ((u.drop k).foldl stepB (ms, rs)).2 := by
  intro k
  induction hd : u.length - k generalizing k with
  | zero =>
    intro ms rs hk h
    obtain rfl : k = u.length := by omega
    rw [List.drop_length]; exact h
  | succ d ih =>
    intro ms rs hk h
    have hlt : k < u.length := by omega
    have hg : u[k]? = some u[k] := List.getElem?_eq_getElem hlt
    rw [List.drop_eq_getElem_cons hlt, List.foldl_cons]
    unfold stepB
    by_cases hm : ms[u[k]]? = some true
    · rw [if_pos hm]; exact ih (k + 1) (by omega) ms rs (by omega) (h.skip hg hm)
    · rw [if_neg hm]; exact ih (k + 1) (by omega) _ _ (by omega) (h.push hu hg (hl _ (List.getElem_mem hlt)) hm)
theorem goB_inv {up : List (List Nat)} {n a : Nat} (hn : up.length = n) (hl : ∀ u ∈ up, ∀ k ∈ u, k < n) : ∀ (d : Nat) (ms : List Bool) (rs : List Nat), rs.length + unm ms ≤ d → Inv up n a ms rs → ∀ j, M (goB up d ms rs) j ↔ Far up a j := by
  intro d
  induction d with
  | zero =>
    intro ms rs hd h j
    obtain rfl : rs = [] := List.length_eq_zero_iff.1 (by omega)
    exact h.stop j
  | succ d ih =>
    intro ms rs hd h j
    unfold goB
    rcases List.eq_nil_or_concat rs with rfl | ⟨r0, f, rfl⟩
    · exact h.stop j
    · rw [List.concat_eq_append] at h hd ⊢
      rw [List.getLast?_concat]
      simp only [List.dropLast_concat]
      have hf : f < up.length := by rw [hn]; exact h.low f (by simp)
      have hu : up[f]? = some up[f] := List.getElem?_eq_getElem hf
      rw [hu, Option.getD_some]
      have hm := fold_mid hu (hl _ (List.getElem_mem hf)) 0 ms r0 (Nat.zero_le _) (h.pop _)
      rw [List.drop_zero] at hm
      refine ih _ _ ?_ (hm.stop hu (Nat.le_refl _)) j
      have hc : ∀ (u : List Nat) (x : List Bool × List Nat), (∀ k ∈ u, k < x.1.length) → (u.foldl stepB x).2.length + unm (u.foldl stepB x).1 = x.2.length + unm x.1 := by
        intro u
        induction u with
        | nil => intro x _; rfl
        | cons y u ih =>
          intro x hx
          rw [List.foldl_cons]
          unfold stepB
          by_cases hm : x.1[y]? = some true
          · rw [if_pos hm]; exact ih x fun k hk => hx k (by simp [hk])
          · rw [if_neg hm]
            have h1 := unm_set (hx y (by simp)) hm
            have h2 := ih (x.1.set y true, x.2 ++ [y]) fun k hk => by simpa using hx k (by simp [hk])
            unfold stepB at h2
            rw [h2]
            simp
            omega
      rw [hc _ _ (fun k hk => by show k < ms.length; rw [h.len]; exact hl _ (List.getElem_mem hf) k hk)]
      show r0.length + unm ms ≤ d
      simp at hd
      omega
def farB (up : List (List Nat)) (i j : Nat) : Bool := decide (i < up.length) && (goB up (up.length + 1) (List.replicate up.length false) [i])[j]? == some true
theorem farB_iff {up : List (List Nat)} (hl : ∀ u ∈ up, ∀ k ∈ u, k < up.length) (i j : Nat) : farB up i j = true ↔ Far up i j := by
  unfold farB
  by_cases hi : i < up.length
  · have := goB_inv rfl hl (up.length + 1) (List.replicate up.length false) [i] (by rw [unm_rep]; simp; omega) (Inv.start up _ i hi) j
    unfold M at this
    simp only [hi, decide_true, Bool.true_and, beq_iff_eq]
    exact this
  · simp only [hi, decide_false, Bool.false_and]
    refine ⟨fun h => (Bool.noConfusion h), fun h => ?_⟩
    refine absurd (Far.ind (C := fun i _ => i < up.length) (fun ⟨u, hu, _⟩ => (List.getElem?_eq_some_iff.1 hu).1) (fun _ _ ih => ih) h) hi
def ringB (up : List (List Nat)) : Bool := (List.range up.length).any fun i => farB up i i
theorem ringB_iff {up : List (List Nat)} (hl : ∀ u ∈ up, ∀ k ∈ u, k < up.length) : ringB up = true ↔ Ring up := by
  unfold ringB Ring
  simp only [List.any_eq_true, List.mem_range]
  constructor
  · rintro ⟨i, _, h⟩; exact ⟨i, (farB_iff hl i i).1 h⟩
  · rintro ⟨i, h⟩
    exact ⟨i, Far.ind (C := fun i _ => i < up.length) (fun ⟨u, hu, _⟩ => (List.getElem?_eq_some_iff.1 hu).1) (fun _ _ ih => ih) h, (farB_iff hl i i).2 h⟩
def errL (cs : List Pp.XCls) : Int := if Pp.progB cs = true then (if oneB (allL cs) = true then (match growL (allL cs) (allL cs) with | none => 5 | some up => if ringB up = true then 7 else 0) else 6) else 4
theorem grow_low {l : List Pp.XCls} {up : List (List Nat)} (h : growL l l = some up) : ∀ u ∈ up, ∀ k ∈ u, k < up.length := by
  intro u hu k hk; rw [growL_len h]; exact growL_lt h u hu k hk
end Hr
end Go.Proofs.YtildjihgklgibaaDoor

/- Under is an order; going up by supers comes to an end (pure). -/
import Derived.Test.YtildjihgklgibabDoorHierO
namespace Go.Proofs.YtildjihgklgibabDoor
set_option linter.unusedVariables false
set_option linter.unusedSimpArgs false
namespace Hr
theorem under_self {cs : List Pp.XCls} (he : errL cs = 0) {i : Nat} {x : Pp.XCls} (hx : (allL cs)[i]? = some x) : underQ cs x.name x.name := by
  obtain ⟨_, ho, up, hg, _⟩ := err_zero he
  exact ⟨up, i, i, he, hg, ho i x hx, ho i x hx, .inl rfl⟩
theorem under_top {cs : List Pp.XCls} (he : errL cs = 0) {i : Nat} {x : Pp.XCls} (hx : (allL cs)[i]? = some x) : underQ cs x.name objN := by
  obtain ⟨_, ho, up, hg, _⟩ := err_zero he
  exact ⟨up, i, 0, he, hg, ho i x hx, place_top, .inr (.inl rfl)⟩
theorem under_trans {cs : List Pp.XCls} {a b c : Pp.Bs} (h1 : underQ cs a b) (h2 : underQ cs b c) : underQ cs a c := by
  obtain ⟨up, i, j, he, hg, ha, hb, h⟩ := h1
  obtain ⟨up', j', k, _, hg', hb', hc, h'⟩ := h2
  rw [hg] at hg'; cases hg'
  rw [hb] at hb'; cases hb'
  refine ⟨up, i, k, he, hg, ha, hc, ?_⟩
  rcases h' with rfl | rfl | h'
  · exact h
  · exact .inr (.inl rfl)
  · rcases h with rfl | rfl | h
    · exact .inr (.inr h')
    · exact absurd h' (far_none (up_top hg))
    · exact .inr (.inr (h.trans h'))
theorem under_anti {cs : List Pp.XCls} {a b : Pp.Bs} (h1 : underQ cs a b) (h2 : underQ cs b a) : a = b := by
  obtain ⟨up, i, j, he, hg, ha, hb, h⟩ := h1
  obtain ⟨up', j', k, _, hg', hb', hc, h'⟩ := h2
  rw [hg] at hg'; cases hg'
  rw [hb] at hb'; cases hb'
  rw [ha] at hc; cases hc
  obtain ⟨_, ho, up', hg', hr⟩ := err_zero he
  rw [hg] at hg'; cases hg'
  have key : i = j → a = b := by
    rintro rfl
    obtain ⟨c, h1, h2, _⟩ := placeL_lt ha
    obtain ⟨d, h3, h4, _⟩ := placeL_lt hb
    rw [h1] at h3; cases h3
    rw [← h2, h4]
  rcases h with h | rfl | h
  · exact key h
  · rcases h' with h' | rfl | h'
    · exact key h'.symm
    · exact key rfl
    · exact absurd h' (far_none (up_top hg))
  · rcases h' with h' | rfl | h'
    · exact key h'.symm
    · exact absurd h (far_none (up_top hg))
    · exact absurd ⟨i, h.trans h'⟩ hr
/-- Going up by supers: the places that lie behind. -/
structure Climb (cs : List Pp.XCls) (up : List (List Nat)) (p0 p : Nat) (vs : List Nat) : Prop where
  nod : (p :: vs).Nodup
  lt : ∀ v ∈ p :: vs, v < (allL cs).length
  far : ∀ v ∈ vs, Far up v p
  fro : p = p0 ∨ Far up p0 p
theorem Climb.few {cs : List Pp.XCls} {up : List (List Nat)} {p0 p : Nat} {vs : List Nat} (h : Climb cs up p0 p vs) : vs.length < (allL cs).length := by
  have key : ∀ (l : List Nat), l.Nodup → ∀ n, (∀ v ∈ l, v < n) → l.length ≤ n := by
    intro l hn n hl
    have := List.Nodup.length_le_of_subset hn (l₂ := List.range n) (fun v hv => List.mem_range.2 (hl v hv))
    simpa using this
  have := key _ h.nod _ h.lt
  simp at this
  omega
theorem Climb.start {cs : List Pp.XCls} {up : List (List Nat)} {p : Nat} (h : p < (allL cs).length) : Climb cs up p p [] :=
  ⟨by simp, by simpa using h, by simp, .inl rfl⟩
theorem Climb.step {cs : List Pp.XCls} {up : List (List Nat)} {p0 p q : Nat} {vs : List Nat} (hr : ¬ Ring up) (h : Climb cs up p0 p vs) (s : Step up p q) (hq : q < (allL cs).length) : Climb cs up p0 q (p :: vs) := by
  have hf : ∀ v ∈ p :: vs, Far up v q := by
    intro v hv
    rcases List.mem_cons.1 hv with rfl | hv
    · exact .one s
    · exact .more (h.far v hv) s
  refine ⟨List.nodup_cons.2 ⟨fun hm => hr ⟨q, hf q hm⟩, h.nod⟩, ?_, hf, ?_⟩
  · intro v hv
    rcases List.mem_cons.1 hv with rfl | hv
    · exact hq
    · exact h.lt v hv
  · rcases h.fro with rfl | h1
    · exact .inr (.one s)
    · exact .inr (.more h1 s)
/-- The super of a class, by places. -/
theorem super_step {cs : List Pp.XCls} {up : List (List Nat)} (hg : growL (allL cs) (allL cs) = some up) {p : Nat} {c : Pp.XCls} {s : Pp.Bs} (hc : (allL cs)[p]? = some c) (hs : superL c = some s) : ∃ q d, placeL (allL cs) s = some q ∧ (allL cs)[q]? = some d ∧ d.name = s ∧ d.iface = false ∧ Step up p q ∧ q < (allL cs).length := by
  obtain ⟨u, hu, huc⟩ := growL_at hg hc
  unfold upsL supL at huc
  rw [hs] at huc
  simp only at huc
  cases hu1 : upL (allL cs) false s with
  | none => rw [hu1] at huc; cases huc
  | some q =>
    rw [hu1] at huc
    simp only [Option.map_some] at huc
    cases hi : ifsL (allL cs) c.ifaces with
    | none => rw [hi] at huc; cases huc
    | some b =>
      rw [hi] at huc
      cases huc
      obtain ⟨h1, h2, d, h3, h4⟩ := upL_lt hu1
      obtain ⟨d', h5, h6, _⟩ := placeL_lt h2
      rw [h3] at h5; cases h5
      exact ⟨q, d, h2, h3, h6, h4, ⟨_, hu, by simp⟩, h1⟩
theorem superQ_at {cs : List Pp.XCls} (he : errL cs = 0) {p : Nat} {c : Pp.XCls} (hc : (allL cs)[p]? = some c) : superQ cs c.name = superL c := by
  obtain ⟨_, ho, _⟩ := err_zero he
  unfold superQ
  rw [lookL_yes he, ho p c hc]
  simp only [hc]
theorem under_far {cs : List Pp.XCls} {up : List (List Nat)} (he : errL cs = 0) (hg : growL (allL cs) (allL cs) = some up) {p0 p : Nat} {x c : Pp.XCls} (hx : (allL cs)[p0]? = some x) (hc : (allL cs)[p]? = some c) (h : p = p0 ∨ Far up p0 p) : underQ cs x.name c.name := by
  obtain ⟨_, ho, _⟩ := err_zero he
  refine ⟨up, p0, p, he, hg, ho p0 x hx, ho p c hc, ?_⟩
  rcases h with rfl | h
  · exact .inl rfl
  · exact .inr (.inr h)
theorem superL_none {c : Pp.XCls} (h : superL c = none) : c.name = objN ∨ c.iface = true := by
  unfold superL at h
  split at h
  · rename_i h1; rcases h1 with h1 | h1
    · exact .inr h1
    · exact .inl h1
  · split at h <;> cases h
theorem kinds_sub {cs : List Pp.XCls} {x y : Pp.Bs} (h : underQ cs y x) {s : Pp.Bs} (hs : s ∈ kindsQ cs y) : s ∈ kindsQ cs x := by
  unfold kindsQ kindsL at hs ⊢
  rw [List.mem_map] at hs ⊢
  obtain ⟨c, hc, rfl⟩ := hs
  rw [List.mem_filter, Bool.and_eq_true] at hc
  refine ⟨c, ?_, rfl⟩
  rw [List.mem_filter, Bool.and_eq_true]
  exact ⟨hc.1, hc.2.1, (underB_iff _ _ _).2 (under_trans ((underB_iff _ _ _).1 hc.2.2) h)⟩
end Hr
end Go.Proofs.YtildjihgklgibabDoor

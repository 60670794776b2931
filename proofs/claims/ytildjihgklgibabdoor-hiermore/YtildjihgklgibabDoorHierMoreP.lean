/- A class more, of no other (pure). -/
import Derived.Test.YtildjihgklgibabDoorHierS
namespace Go.Proofs.YtildjihgklgibabDoor
set_option linter.unusedVariables false
set_option linter.unusedSimpArgs false
namespace Hr
def zzN : Pp.Bs := [90, 122, 95, 110, 101, 119]
def zz : Pp.XCls := plain zzN []
theorem placeL_app {l : List Pp.XCls} {z : Pp.XCls} {n : Pp.Bs} {k : Nat} (h : placeL l n = some k) : placeL (l ++ [z]) n = some k := by
  induction l generalizing k with
  | nil => simp [placeL] at h
  | cons a l ih =>
    rw [List.cons_append]
    unfold placeL at h ⊢
    split at h
    · rename_i ha; rw [if_pos ha]; exact h
    · rename_i ha
      rw [if_neg ha]
      cases hp : placeL l n with
      | none => rw [hp] at h; cases h
      | some m => rw [hp] at h; rw [ih hp]; exact h
theorem placeL_new {l : List Pp.XCls} {z : Pp.XCls} (h : placeL l z.name = none) : placeL (l ++ [z]) z.name = some l.length := by
  refine placeL_at (c := z) (by simp) rfl fun j d hj hd => ?_
  rw [List.getElem?_append_left hj] at hd
  exact placeL_none.1 h j d hd
theorem one_app {l : List Pp.XCls} {z : Pp.XCls} (ho : oneL l) (h : placeL l z.name = none) : oneL (l ++ [z]) := by
  intro j c hc
  rcases Nat.lt_or_ge j l.length with hj | hj
  · rw [List.getElem?_append_left hj] at hc
    exact placeL_app (ho j c hc)
  · rw [List.getElem?_append_right hj] at hc
    obtain ⟨hj0, hc⟩ : j - l.length = 0 ∧ z = c := by
      cases hq : j - l.length with
      | zero => rw [hq] at hc; simp at hc; exact ⟨rfl, hc⟩
      | succ q => rw [hq] at hc; simp at hc
    subst hc
    have : j = l.length := by omega
    subst this
    exact placeL_new h
theorem upL_app {l : List Pp.XCls} {z : Pp.XCls} {b : Bool} {n : Pp.Bs} {k : Nat} (h : upL l b n = some k) : upL (l ++ [z]) b n = some k := by
  obtain ⟨h1, h2, c, h3, h4⟩ := upL_lt h
  unfold upL
  rw [placeL_app h2]
  simp only [List.getElem?_append_left h1, h3, h4]
  exact if_pos trivial
theorem ifsL_app {l : List Pp.XCls} {z : Pp.XCls} : ∀ {ns : List Pp.Bs} {r : List Nat}, ifsL l ns = some r → ifsL (l ++ [z]) ns = some r
  | [], r, h => h
  | n :: ns, r, h => by
    simp only [ifsL] at h ⊢
    cases hu : upL l true n with
    | none => rw [hu] at h; cases h
    | some u =>
      rw [hu] at h
      rw [upL_app hu]
      cases hr : ifsL l ns with
      | none => rw [hr] at h; cases h
      | some s => rw [hr] at h; rw [ifsL_app hr]; exact h
theorem upsL_app {l : List Pp.XCls} {z c : Pp.XCls} {r : List Nat} (h : upsL l c = some r) : upsL (l ++ [z]) c = some r := by
  unfold upsL at h ⊢
  cases hs : supL l c with
  | none => rw [hs] at h; cases h
  | some a =>
    rw [hs] at h
    have h1 : supL (l ++ [z]) c = some a := by
      unfold supL at hs ⊢
      cases hsu : superL c with
      | none => rw [hsu] at hs; exact hs
      | some n =>
        rw [hsu] at hs
        cases hu : upL l false n with
        | none => simp only [hu] at hs; cases hs
        | some u => simp only [hu] at hs; simp only [upL_app hu]; exact hs
    rw [h1]
    cases hi : ifsL l c.ifaces with
    | none => rw [hi] at h; cases h
    | some b => rw [hi] at h; rw [ifsL_app hi]; exact h
theorem growL_app {l : List Pp.XCls} {z : Pp.XCls} {u : List Nat} (hz : upsL (l ++ [z]) z = some u) : ∀ {cs : List Pp.XCls} {r : List (List Nat)}, growL l cs = some r → growL (l ++ [z]) (cs ++ [z]) = some (r ++ [u])
  | [], r, h => by simp [growL] at h; subst h; simp [growL, hz]
  | c :: cs, r, h => by
    simp only [growL] at h
    cases hu : upsL l c with
    | none => rw [hu] at h; cases h
    | some v =>
      rw [hu] at h
      cases hr : growL l cs with
      | none => rw [hr] at h; cases h
      | some s =>
        rw [hr] at h; cases h
        rw [List.cons_append]
        simp only [growL]
        rw [upsL_app hu, growL_app hz hr]
        rfl
theorem step_app {up : List (List Nat)} {i j : Nat} (hi : i < up.length) : Step (up ++ [[0]]) i j ↔ Step up i j := by
  unfold Step
  rw [List.getElem?_append_left hi]
theorem far_app {up : List (List Nat)} (hl : ∀ u ∈ up, ∀ k ∈ u, k < up.length) {i j : Nat} (hi : i < up.length) : Far (up ++ [[0]]) i j ↔ Far up i j := by
  constructor
  · intro h
    exact (Far.ind (C := fun i j => i < up.length → Far up i j ∧ j < up.length) (fun {i j} s hi => by
      have s' := (step_app hi).1 s
      obtain ⟨u, hu, hj⟩ := s'
      exact ⟨.one ⟨u, hu, hj⟩, hl u (List.mem_of_getElem? hu) _ hj⟩) (fun {i j k} _ s ih hi => by
      obtain ⟨h1, h2⟩ := ih hi
      obtain ⟨u, hu, hj⟩ := (step_app h2).1 s
      exact ⟨.more h1 ⟨u, hu, hj⟩, hl u (List.mem_of_getElem? hu) _ hj⟩) h hi).1
  · intro h
    exact (Far.ind (C := fun i j => i < up.length → Far (up ++ [[0]]) i j ∧ j < up.length) (fun {i j} s hi => by
      have := (step_app hi).2 s
      obtain ⟨u, hu, hj⟩ := s
      exact ⟨.one this, hl u (List.mem_of_getElem? hu) _ hj⟩) (fun {i j k} _ s ih hi => by
      obtain ⟨h1, h2⟩ := ih hi
      have := (step_app h2).2 s
      obtain ⟨u, hu, hj⟩ := s
      exact ⟨.more h1 this, hl u (List.mem_of_getElem? hu) _ hj⟩) h hi).1
/-- Every step leads to one that was there. -/
theorem far_old {up : List (List Nat)} (hl : ∀ u ∈ up, ∀ k ∈ u, k < up.length) (h0 : 0 < up.length) {i j : Nat} (h : Far (up ++ [[0]]) i j) : j < up.length := by
  have key : ∀ {i j : Nat}, Step (up ++ [[0]]) i j → j < up.length := by
    intro i j ⟨u, hu, hj⟩
    have := List.mem_of_getElem? hu
    rcases List.mem_append.1 this with h | h
    · exact hl u h j hj
    · simp at h; subst h; simp at hj; subst hj; exact h0
  exact Far.ind (C := fun _ j => j < up.length) (fun s => key s) (fun _ s _ => key s) h
theorem far_new {up : List (List Nat)} (hl : ∀ u ∈ up, ∀ k ∈ u, k < up.length) (ht : up[0]? = some []) {j : Nat} (h : Far (up ++ [[0]]) up.length j) : j = 0 := by
  have h0 : 0 < up.length := (List.getElem?_eq_some_iff.1 ht).1
  refine Far.ind (C := fun i j => i = up.length → j = 0) (fun {i j} ⟨u, hu, hj⟩ e => ?_) (fun {i j k} _ ⟨u, hu, hk⟩ ih e => ?_) h rfl
  · subst e
    rw [List.getElem?_append_right (Nat.le_refl _)] at hu
    simp at hu; subst hu; simpa using hj
  · have := ih e
    subst this
    rw [List.getElem?_append_left h0, ht] at hu
    cases hu; cases hk
theorem all_zz (cs : List Pp.XCls) : allL (cs ++ [zz]) = allL cs ++ [zz] := by unfold allL; rw [List.append_assoc]
theorem no_zz {cs : List Pp.XCls} (hp : placeL cs zzN = none) : placeL (allL cs) zzN = none := by
  refine placeL_none.2 fun j d hd => ?_
  unfold allL at hd
  rcases Nat.lt_or_ge j base.length with hj | hj
  · rw [List.getElem?_append_left hj] at hd
    have : ∀ c ∈ base, c.name ≠ zzN := by decide
    exact this d (List.mem_of_getElem? hd)
  · rw [List.getElem?_append_right hj] at hd
    exact placeL_none.1 hp _ d hd
theorem grow_zz {cs : List Pp.XCls} {up : List (List Nat)} (hg : growL (allL cs) (allL cs) = some up) : growL (allL (cs ++ [zz])) (allL (cs ++ [zz])) = some (up ++ [[0]]) := by
  rw [all_zz]
  refine growL_app ?_ hg
  unfold upsL supL
  rw [show superL zz = some objN from by decide]
  simp only
  rw [show upL (allL cs ++ [zz]) false objN = some 0 from upL_app (by unfold upL; rw [place_top]; rfl)]
  rfl
theorem err_zz {cs : List Pp.XCls} (he : errL cs = 0) (hn : cs.length < 10) (hp : placeL cs zzN = none) : errL (cs ++ [zz]) = 0 := by
  obtain ⟨h1, ho, up, hg, hr⟩ := err_zero he
  refine err_ok (up := up ++ [[0]]) ?_ ((oneB_iff _).2 ?_) (grow_zz hg) ?_
  · have := (Pp.eachB_iff cs 10 Pp.clsB).1 h1
    refine (Pp.eachB_iff _ 10 Pp.clsB).2 ⟨by simp; omega, fun c hc => ?_⟩
    rcases List.mem_append.1 hc with hc | hc
    · exact this.2 c hc
    · simp at hc; subst hc; decide +kernel
  · rw [all_zz]; exact one_app ho (no_zz hp)
  · rintro ⟨i, hi⟩
    have hl := grow_low hg
    have h0 : 0 < up.length := (List.getElem?_eq_some_iff.1 (up_top hg)).1
    have := far_old hl h0 hi
    exact hr ⟨i, (far_app hl this).1 hi⟩
theorem under_zz {cs : List Pp.XCls} (he : errL cs = 0) (hn : cs.length < 10) (hp : placeL cs zzN = none) {a b : Pp.Bs} {i j : Nat} (ha : placeL (allL cs) a = some i) (hb : placeL (allL cs) b = some j) : underB (cs ++ [zz]) a b = underB cs a b := by
  obtain ⟨h1, ho, up, hg, hr⟩ := err_zero he
  have hl := grow_low hg
  have hi : i < up.length := by obtain ⟨c, hc, _⟩ := placeL_lt ha; rw [growL_len hg]; exact (List.getElem?_eq_some_iff.1 hc).1
  unfold underB
  rw [err_zz he hn hp, he, grow_zz hg, hg, all_zz, placeL_app ha, placeL_app hb, ha, hb]
  simp only
  congr 1
  have hgz := grow_zz hg
  have : farB (up ++ [[0]]) i j = farB up i j := by
    rw [Bool.eq_iff_iff, farB_iff hl, farB_iff (grow_low hgz)]
    exact far_app hl hi
  rw [this]
theorem under_new {cs : List Pp.XCls} (he : errL cs = 0) (hn : cs.length < 10) (hp : placeL cs zzN = none) {b : Pp.Bs} {j : Nat} (hb : placeL (allL cs) b = some j) : underB (cs ++ [zz]) zzN b = decide (b = objN) := by
  obtain ⟨h1, ho, up, hg, hr⟩ := err_zero he
  have hl := grow_low hg
  have hgz := grow_zz hg
  obtain ⟨c, hc, hcn, _⟩ := placeL_lt hb
  have hj : j < up.length := by rw [growL_len hg]; exact (List.getElem?_eq_some_iff.1 hc).1
  rw [Bool.eq_iff_iff, underB_iff, decide_eq_true_eq]
  have hz : placeL (allL (cs ++ [zz])) zzN = some up.length := by rw [all_zz, growL_len hg]; exact placeL_new (z := zz) (no_zz hp)
  have hb' : placeL (allL (cs ++ [zz])) b = some j := by rw [all_zz]; exact placeL_app hb
  constructor
  · rintro ⟨up', i', j', _, hg', hz', hb'', h⟩
    rw [hgz] at hg'; cases hg'
    rw [hz] at hz'; cases hz'
    rw [hb'] at hb''; cases hb''
    have : j = 0 := by
      rcases h with h | h | h
      · omega
      · exact h
      · exact far_new hl (up_top hg) h
    subst this
    rw [← hcn]
    have : (allL cs)[0]? = some (plain objN []) := rfl
    rw [this] at hc; cases hc; rfl
  · rintro rfl
    rw [place_top] at hb; cases hb
    exact ⟨_, _, 0, err_zz he hn hp, hgz, hz, hb', .inr (.inl rfl)⟩
theorem under_no {cs : List Pp.XCls} (he : errL cs = 0) (hn : cs.length < 10) (hp : placeL cs zzN = none) {a : Pp.Bs} {i : Nat} (ha : placeL (allL cs) a = some i) : underB (cs ++ [zz]) a zzN = false := by
  obtain ⟨h1, ho, up, hg, hr⟩ := err_zero he
  have hl := grow_low hg
  have hgz := grow_zz hg
  have hi : i < up.length := by obtain ⟨c, hc, _⟩ := placeL_lt ha; rw [growL_len hg]; exact (List.getElem?_eq_some_iff.1 hc).1
  have hz : placeL (allL (cs ++ [zz])) zzN = some up.length := by rw [all_zz, growL_len hg]; exact placeL_new (z := zz) (no_zz hp)
  rw [← Bool.not_eq_true, underB_iff]
  rintro ⟨up', i', j', _, hg', ha', hz', h⟩
  rw [hgz] at hg'; cases hg'
  rw [hz] at hz'; cases hz'
  rw [all_zz, placeL_app ha] at ha'; cases ha'
  rcases h with h | h | h
  · omega
  · omega
  · have := far_old hl (by omega) h; omega
theorem kinds_zz {cs : List Pp.XCls} (he : errL cs = 0) (hn : cs.length < 10) (hp : placeL cs zzN = none) {x : Pp.Bs} {j : Nat} (hx : placeL (allL cs) x = some j) : kindsQ (cs ++ [zz]) x = kindsQ cs x ++ (if x = objN then [zzN] else []) := by
  obtain ⟨h1, ho, up, hg, hr⟩ := err_zero he
  unfold kindsQ kindsL
  rw [List.filter_append, List.map_append]
  congr 1
  · congr 1
    refine List.filter_congr fun c hc => ?_
    congr 1
    obtain ⟨k, hk⟩ := List.getElem?_of_mem (List.mem_append_right base hc : c ∈ base ++ cs)
    exact under_zz he hn hp (ho k c hk) hx
  · rw [List.filter_cons, show zz.name = zzN from rfl, under_new he hn hp hx]
    by_cases h : x = objN
    · simp [h, zz, plain]
    · simp [h]
end Hr
end Go.Proofs.YtildjihgklgibabDoor

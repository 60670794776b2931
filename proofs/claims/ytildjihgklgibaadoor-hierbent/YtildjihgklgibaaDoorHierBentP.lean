/- A sound order bent (pure). -/
import Derived.Test.YtildjihgklgibaaDoorHierS
namespace Go.Proofs.YtildjihgklgibaaDoor
set_option linter.unusedVariables false
set_option linter.unusedSimpArgs false
namespace Hr
def nsN : Pp.Bs := [78, 111, 110, 101, 95, 115, 117, 99, 104]
theorem kinds_bad {cs : List Pp.XCls} {x : Pp.Bs} (h : errL cs ≠ 0) : kindsQ cs x = [] := kinds_none (lookL_no h)
theorem under_bad {cs : List Pp.XCls} {a b : Pp.Bs} (h : errL cs ≠ 0) : underB cs a b = false := by
  rw [← Bool.not_eq_true, underB_iff]
  rintro ⟨_, _, _, he, _⟩; exact h he
/-- The same names, the same kinds, place by place. -/
def Alike (l l' : List Pp.XCls) : Prop := l.length = l'.length ∧ ∀ (j : Nat) (c d : Pp.XCls), l[j]? = some c → l'[j]? = some d → c.name = d.name ∧ c.iface = d.iface
theorem Alike.place {l l' : List Pp.XCls} (h : Alike l l') (n : Pp.Bs) : placeL l' n = placeL l n := by
  induction l generalizing l' with
  | nil =>
    have : l' = [] := List.length_eq_zero_iff.1 (by have := h.1; simpa using this.symm)
    subst this; rfl
  | cons a l ih =>
    cases l' with
    | nil => have := h.1; simp at this
    | cons b l' =>
      have h0 := (h.2 0 a b rfl rfl).1
      have ht : Alike l l' := ⟨by have := h.1; simpa using this, fun j c d hc hd => h.2 (j + 1) c d (by simpa using hc) (by simpa using hd)⟩
      unfold placeL
      rw [h0, ih ht]
theorem Alike.up {l l' : List Pp.XCls} (h : Alike l l') (b : Bool) (n : Pp.Bs) : upL l' b n = upL l b n := by
  unfold upL
  rw [h.place]
  cases hp : placeL l n with
  | none => rfl
  | some k =>
    obtain ⟨c, hc, _⟩ := placeL_lt hp
    have hk : k < l'.length := by rw [← h.1]; exact (List.getElem?_eq_some_iff.1 hc).1
    have hd : l'[k]? = some l'[k] := List.getElem?_eq_getElem hk
    simp only [hc, hd]
    rw [(h.2 k c _ hc hd).2]
theorem Alike.ifs {l l' : List Pp.XCls} (h : Alike l l') : ∀ ns, ifsL l' ns = ifsL l ns
  | [] => rfl
  | n :: ns => by simp only [ifsL]; rw [h.up, h.ifs ns]
theorem Alike.sup {l l' : List Pp.XCls} (h : Alike l l') (c : Pp.XCls) : supL l' c = supL l c := by
  unfold supL; cases superL c with
  | none => rfl
  | some n => simp only [h.up]
theorem Alike.ups {l l' : List Pp.XCls} (h : Alike l l') (c : Pp.XCls) : upsL l' c = upsL l c := by
  unfold upsL; rw [h.sup, h.ifs]
theorem grow_bad {l : List Pp.XCls} : ∀ {xs : List Pp.XCls} {c : Pp.XCls}, c ∈ xs → upsL l c = none → growL l xs = none
  | [], c, h, _ => by cases h
  | a :: xs, c, h, hu => by
    simp only [growL]
    rcases List.mem_cons.1 h with rfl | h
    · rw [hu]
    · cases upsL l a with
      | none => rfl
      | some u => simp only [grow_bad h hu]; rfl
theorem grow_good {l : List Pp.XCls} : ∀ {xs : List Pp.XCls}, (∀ c ∈ xs, ∃ u, upsL l c = some u) → ∃ up, growL l xs = some up
  | [], _ => ⟨[], rfl⟩
  | a :: xs, h => by
    obtain ⟨u, hu⟩ := h a (by simp)
    obtain ⟨up, hp⟩ := grow_good (xs := xs) fun c hc => h c (by simp [hc])
    exact ⟨u :: up, by simp only [growL]; rw [hu, hp]; rfl⟩
theorem all_set {cs : List Pp.XCls} {i : Nat} {d : Pp.XCls} : allL (cs.set i d) = (allL cs).set (8 + i) d := by
  unfold allL
  rw [List.set_append_right (s := base) _ _ (by show 8 ≤ 8 + i; omega)]
  show _ = base ++ cs.set (8 + i - 8) d
  rw [Nat.add_sub_cancel_left]
theorem all_cs {cs : List Pp.XCls} {i : Nat} {c : Pp.XCls} (hc : cs[i]? = some c) : (allL cs)[8 + i]? = some c := by rw [all_at]; exact hc
theorem alike_set {cs : List Pp.XCls} {i : Nat} {c d : Pp.XCls} (hc : cs[i]? = some c) (hn : d.name = c.name) (hi : d.iface = c.iface) : Alike (allL cs) (allL (cs.set i d)) := by
  rw [all_set]
  refine ⟨by simp, fun j x y hx hy => ?_⟩
  rw [List.getElem?_set] at hy
  split at hy
  · rename_i hj
    subst hj
    rw [all_cs hc] at hx; cases hx
    split at hy
    · cases hy; exact ⟨hn.symm, hi.symm⟩
    · cases hy
  · rw [hx] at hy; cases hy; exact ⟨rfl, rfl⟩
theorem name_ne {cs : List Pp.XCls} (ho : oneL (allL cs)) {i : Nat} {c : Pp.XCls} (hc : cs[i]? = some c) : c.name ≠ objN := by
  intro h
  have := ho _ c (all_cs hc)
  rw [h, place_top] at this
  injection this with this; omega
theorem prog_set {cs : List Pp.XCls} {i : Nat} {d : Pp.XCls} (h : Pp.progB cs = true) (hd : Pp.clsB d = true) : Pp.progB (cs.set i d) = true := by
  have := (Pp.eachB_iff cs 10 Pp.clsB).1 h
  refine (Pp.eachB_iff _ 10 Pp.clsB).2 ⟨by rw [List.length_set]; exact this.1, fun c hc => ?_⟩
  rcases List.mem_or_eq_of_mem_set hc with hc | rfl
  · exact this.2 c hc
  · exact hd
theorem cls_of {cs : List Pp.XCls} (h : Pp.progB cs = true) {i : Nat} {c : Pp.XCls} (hc : cs[i]? = some c) : Pp.clsB c = true := ((Pp.eachB_iff cs 10 Pp.clsB).1 h).2 c (List.mem_of_getElem? hc)
theorem one_set {cs : List Pp.XCls} {i : Nat} {c d : Pp.XCls} (ho : oneL (allL cs)) (hc : cs[i]? = some c) (hn : d.name = c.name) (hi : d.iface = c.iface) : oneB (allL (cs.set i d)) = true := by
  have ha := alike_set hc hn hi
  refine (oneB_iff _).2 fun j x hx => ?_
  rw [ha.place]
  have hj : j < (allL cs).length := by rw [ha.1]; exact (List.getElem?_eq_some_iff.1 hx).1
  have hy := List.getElem?_eq_getElem hj
  rw [← (ha.2 j _ x hy hx).1]
  exact ho j _ hy
/-- A class again. -/
theorem bent0 {cs : List Pp.XCls} (he : errL cs = 0) (hn : cs.length < 10) {i : Nat} {c : Pp.XCls} (hc : cs[i]? = some c) : errL (cs ++ [plain c.name []]) = 6 := by
  obtain ⟨h1, ho, up, hg, hr⟩ := err_zero he
  have hcl := cls_of h1 hc
  refine err_twice ?_ ?_
  · have := (Pp.eachB_iff cs 10 Pp.clsB).1 h1
    refine (Pp.eachB_iff _ 10 Pp.clsB).2 ⟨by simp; omega, fun d hd => ?_⟩
    rcases List.mem_append.1 hd with hd | hd
    · exact this.2 d hd
    · simp at hd; subst hd
      unfold Pp.clsB at hcl ⊢
      rw [Bool.and_eq_true] at hcl
      rw [show (plain c.name []).name = c.name from rfl, hcl.1]
      simp [Pp.supB, Pp.eachB, plain]
  · cases hb : oneB (allL (cs ++ [plain c.name []])) with
    | false => rfl
    | true =>
      have h2 := (oneB_iff _).1 hb (8 + cs.length) (plain c.name []) (by rw [all_at]; simp)
      have hi := (List.getElem?_eq_some_iff.1 hc).1
      have h3 := (oneB_iff _).1 hb (8 + i) c (by rw [all_at, List.getElem?_append_left hi]; exact hc)
      rw [show (plain c.name []).name = c.name from rfl, h3] at h2
      injection h2 with h2; omega
/-- A super that there is not. -/
theorem bent1 {cs : List Pp.XCls} (he : errL cs = 0) {i : Nat} {c : Pp.XCls} (hc : cs[i]? = some c) (hi : c.iface = false) (hns : placeL (allL cs) nsN = none) : errL (cs.set i { c with super := nsN }) = 5 := by
  obtain ⟨h1, ho, up, hg, hr⟩ := err_zero he
  have hcl := cls_of h1 hc
  have ha := alike_set (d := { c with super := nsN }) hc rfl rfl
  refine err_none (prog_set h1 ?_) (one_set ho hc rfl rfl) ?_
  · unfold Pp.clsB at hcl ⊢
    simp only [Bool.and_eq_true] at hcl ⊢
    refine ⟨hcl.1, ?_, hcl.2.2⟩
    unfold Pp.supB
    simp only [hi]
    decide +kernel
  · refine grow_bad (c := { c with super := nsN }) ?_ ?_
    · rw [all_set]; exact List.mem_of_getElem? (List.getElem?_set_self (by rw [all_len]; have := (List.getElem?_eq_some_iff.1 hc).1; show 8 + i < 8 + cs.length; omega))
    · rw [ha.ups]
      unfold upsL supL
      rw [show superL { c with super := nsN } = some nsN from by unfold superL; simp [hi, name_ne ho hc, nsN]]
      simp only
      rw [show upL (allL cs) false nsN = none from by unfold upL; rw [hns]]
      rfl
/-- An interface that is a class. -/
theorem bent2 {cs : List Pp.XCls} (he : errL cs = 0) {i : Nat} {c : Pp.XCls} (hc : cs[i]? = some c) : errL (cs.set i { c with ifaces := [objN] }) = 5 := by
  obtain ⟨h1, ho, up, hg, hr⟩ := err_zero he
  have hcl := cls_of h1 hc
  have ha := alike_set (d := { c with ifaces := [objN] }) hc rfl rfl
  refine err_none (prog_set h1 ?_) (one_set ho hc rfl rfl) ?_
  · unfold Pp.clsB at hcl ⊢
    simp only [Bool.and_eq_true] at hcl ⊢
    exact ⟨hcl.1, hcl.2.1, by decide +kernel, hcl.2.2.2⟩
  · refine grow_bad (c := { c with ifaces := [objN] }) ?_ ?_
    · rw [all_set]; exact List.mem_of_getElem? (List.getElem?_set_self (by rw [all_len]; have := (List.getElem?_eq_some_iff.1 hc).1; show 8 + i < 8 + cs.length; omega))
    · rw [ha.ups]
      unfold upsL
      rw [show ifsL (allL cs) [objN] = none from by simp only [ifsL]; rw [show upL (allL cs) true objN = none from by unfold upL; rw [place_top]; rfl]]
      cases supL (allL cs) { c with ifaces := [objN] } <;> rfl
theorem ring_of {cs : List Pp.XCls} (he : errL cs = 0) {i : Nat} {c d : Pp.XCls} (hc : cs[i]? = some c) (hn : d.name = c.name) (hi : d.iface = c.iface) (hcl : Pp.clsB d = true) {u : List Nat} (hu : upsL (allL cs) d = some u) (hm : 8 + i ∈ u) : errL (cs.set i d) = 7 := by
  obtain ⟨h1, ho, up, hg, hr⟩ := err_zero he
  have ha := alike_set hc hn hi
  have hin : 8 + i < (allL cs).length := by rw [all_len]; have := (List.getElem?_eq_some_iff.1 hc).1; show 8 + i < 8 + cs.length; omega
  obtain ⟨up', hg'⟩ := grow_good (l := allL (cs.set i d)) (xs := allL (cs.set i d)) fun x hx => by
    rw [ha.ups]
    rw [all_set] at hx
    rcases List.mem_or_eq_of_mem_set hx with hx | rfl
    · obtain ⟨k, hk⟩ := List.getElem?_of_mem hx
      obtain ⟨v, _, hv⟩ := growL_at hg hk
      exact ⟨v, hv⟩
    · exact ⟨u, hu⟩
  refine err_ring (prog_set h1 hcl) (one_set ho hc hn hi) hg' ⟨8 + i, .one ?_⟩
  obtain ⟨v, hv, hvu⟩ := growL_at hg' (k := 8 + i) (c := d) (by rw [all_set]; exact List.getElem?_set_self hin)
  rw [ha.ups, hu] at hvu
  cases hvu
  exact ⟨_, hv, hm⟩
/-- An interface, a class that comes of itself. -/
theorem bent3i {cs : List Pp.XCls} (he : errL cs = 0) {i : Nat} {c : Pp.XCls} (hc : cs[i]? = some c) (hi : c.iface = true) : errL (cs.set i { c with ifaces := [c.name] }) = 7 := by
  obtain ⟨h1, ho, up, hg, hr⟩ := err_zero he
  have hcl := cls_of h1 hc
  refine ring_of he hc rfl rfl ?_ (u := [8 + i]) ?_ (by simp)
  · unfold Pp.clsB at hcl ⊢
    simp only [Bool.and_eq_true] at hcl ⊢
    refine ⟨hcl.1, hcl.2.1, ?_, hcl.2.2.2⟩
    simp [Pp.eachB, hcl.1]
  · unfold upsL supL
    rw [show superL { c with ifaces := [c.name] } = none from by unfold superL; simp [hi]]
    simp only [ifsL]
    rw [show upL (allL cs) true c.name = some (8 + i) from by unfold upL; rw [ho _ c (all_cs hc)]; simp only [all_cs hc, hi]; rfl]
    rfl
theorem bent3c {cs : List Pp.XCls} (he : errL cs = 0) {i : Nat} {c : Pp.XCls} (hc : cs[i]? = some c) (hi : c.iface = false) : errL (cs.set i { c with super := c.name }) = 7 := by
  obtain ⟨h1, ho, up, hg, hr⟩ := err_zero he
  have hcl := cls_of h1 hc
  obtain ⟨v, _, hv⟩ := growL_at hg (all_cs hc)
  obtain ⟨a, b, hab⟩ : ∃ a b, supL (allL cs) c = some a ∧ ifsL (allL cs) c.ifaces = some b := by
    unfold upsL at hv
    cases hs : supL (allL cs) c with
    | none => rw [hs] at hv; cases hv
    | some a =>
      rw [hs] at hv
      cases hb : ifsL (allL cs) c.ifaces with
      | none => rw [hb] at hv; cases hv
      | some b => exact ⟨a, b, rfl, rfl⟩
  have hne : c.name ≠ [] := by
    intro h
    unfold Pp.clsB at hcl
    rw [h, Bool.and_eq_true] at hcl
    exact absurd hcl.1 (by decide +kernel)
  refine ring_of he hc rfl rfl ?_ (u := (8 + i) :: b) ?_ (by simp)
  · unfold Pp.clsB at hcl ⊢
    simp only [Bool.and_eq_true] at hcl ⊢
    refine ⟨hcl.1, ?_, hcl.2.2⟩
    unfold Pp.supB
    simp [hi, hcl.1]
  · unfold upsL supL
    rw [show superL { c with super := c.name } = some c.name from by unfold superL; simp [hi, name_ne ho hc, hne]]
    simp only
    rw [show upL (allL cs) false c.name = some (8 + i) from by unfold upL; rw [ho _ c (all_cs hc)]; simp only [all_cs hc, hi]; rfl]
    simp only [Option.map_some, hab.2]
    rfl
/-- Object again. -/
theorem bent4 {cs : List Pp.XCls} (he : errL cs = 0) {i : Nat} {c : Pp.XCls} (hc : cs[i]? = some c) : errL (cs.set i { c with name := objN }) = 6 := by
  obtain ⟨h1, ho, up, hg, hr⟩ := err_zero he
  have hcl := cls_of h1 hc
  refine err_twice (prog_set h1 ?_) ?_
  · unfold Pp.clsB at hcl ⊢
    simp only [Bool.and_eq_true] at hcl ⊢
    exact ⟨by decide +kernel, hcl.2⟩
  · cases hb : oneB (allL (cs.set i { c with name := objN })) with
    | false => rfl
    | true =>
      have h2 := (oneB_iff _).1 hb (8 + i) { c with name := objN } (by rw [all_at]; exact List.getElem?_set_self (List.getElem?_eq_some_iff.1 hc).1)
      rw [show ({ c with name := objN } : Pp.XCls).name = objN from rfl, place_top] at h2
      injection h2 with h2; omega
end Hr
end Go.Proofs.YtildjihgklgibaaDoor

/- A program that can be shown, bent (pure); and what a store into an instruction leaves of a program. -/
import Derived.Test.YtdgfidaopkcjoabDoorTwinC
namespace Go.Proofs.YtdgfidaopkcjoabDoor
open Go.RowKit
set_option linter.unusedVariables false
set_option linter.unusedSimpArgs false
namespace Sb
open Pp
theorem prog_bad {cs : List XCls} {i : Nat} {d : XCls} (hc : cs[i]? = some d) (hd : clsB d = false) : progB cs = false := by
  cases hp : progB cs with
  | false => rfl
  | true =>
    have := ((eachB_iff cs 10 clsB).1 hp).2 d (List.mem_of_getElem? hc)
    rw [hd] at this; cases this
theorem bad0 (c : XCls) : clsB { c with fields := [⟨[], ⟨2, []⟩, false⟩] } = false := by
  unfold clsB
  rw [show eachB ({ c with fields := [⟨[], ⟨2, []⟩, false⟩] } : XCls).fields 6 fldB = false from (by show eachB [(⟨[], ⟨2, []⟩, false⟩ : Fld)] 6 fldB = false; decide +kernel)]
  simp
theorem bad2 (c : XCls) : clsB { c with iface := true, super := [65] } = false := by
  unfold clsB
  rw [show supB ({ c with iface := true, super := [65] } : XCls) = false from by simp [supB]]
  simp
theorem bad3 (c : XCls) : clsB { c with methods := [⟨[109], false, true, [], ⟨1, []⟩, 1, [], []⟩] } = false := by
  unfold clsB
  rw [show eachB ({ c with methods := [⟨[109], false, true, [], ⟨1, []⟩, 1, [], []⟩] } : XCls).methods 6 mthB = false from (by show eachB [(⟨[109], false, true, [], ⟨1, []⟩, 1, [], []⟩ : XMth)] 6 mthB = false; decide +kernel)]
  simp
theorem bad4 (c : XCls) : clsB { c with name := [105, 110, 116] } = false := by
  unfold clsB
  rw [show freshB ({ c with name := [105, 110, 116] } : XCls).name = false from (by show freshB [105, 110, 116] = false; decide +kernel)]
  simp
theorem ins_bad {x : XIns} (h : x.n = 8589934592) : insB x = false := by
  have key : ∀ op, (argsX op).2.2.1 ≤ 2147483647 := by
    intro op; unfold argsX
    split
    · simp
    · split
      · simp
      · split
        · simp
        · split
          · simp
          · split <;> simp
  have : withinB x.n (argsX x.op).2.1 (argsX x.op).2.2.1 = false := by
    rw [← Bool.not_eq_true, withinB_iff, h]
    have := key x.op
    omega
  unfold insB
  rw [this]; simp
theorem bad1 {c : XCls} {m : XMth} {x : XIns} (hm : c.methods[0]? = some m) (ha : m.abst = false) (hx : m.code[0]? = some x) (hn : x.n = 8589934592) : clsB c = false := by
  have h1 : bodyB m = false := by
    unfold bodyB
    rw [if_neg (by rw [ha]; decide)]
    have : eachB m.code 48 insB = false := by
      rw [← Bool.not_eq_true, eachB_iff]
      rintro ⟨_, h⟩
      have := h x (List.mem_of_getElem? hx)
      rw [ins_bad hn] at this; cases this
    rw [this]; simp
  have h2 : mthB m = false := by unfold mthB; rw [h1]; simp
  have h3 : eachB c.methods 6 mthB = false := by
    rw [← Bool.not_eq_true, eachB_iff]
    rintro ⟨_, h⟩
    have := h m (List.mem_of_getElem? hm)
    rw [h2] at this; cases this
  unfold clsB
  rw [h3]; simp
end Sb

namespace Ow
/-- Item by item, something like it. -/
theorem Flat.like {α : Type} {P P' : α → List Value → Prop} {R : α → α → Prop} (h : ∀ x a, P x a → ∃ x', P' x' a ∧ R x x') : ∀ {l : List α} {ys : List Value}, Flat P l ys → ∃ l', Flat P' l' ys ∧ l'.length = l.length ∧ ∀ (k : Nat) (x : α), l[k]? = some x → ∃ x', l'[k]? = some x' ∧ R x x'
  | [], _, hf => ⟨[], hf, rfl, by intro k x hk; simp at hk⟩
  | x :: l, _, ⟨a, b, e, hx, hl⟩ => by
    obtain ⟨x', h1, h2⟩ := h x a hx
    obtain ⟨l', h3, h4, h5⟩ := hl.like h
    refine ⟨x' :: l', ⟨a, b, e, h1, h3⟩, by simp [h4], fun k y hk => ?_⟩
    cases k with
    | zero => simp at hk; subst hk; exact ⟨x', rfl, h2⟩
    | succ k => exact h5 k y (by simpa using hk)
theorem OwnX.like {α : Type} {P P' : α → List Value → Prop} {R : α → α → Prop} {sz base e : Nat} {w w' : World} {v : Value} {l : List α} (ho : OwnX w base e sz P v l) (hk : ∀ (k : Nat) (c : Array Value), w.heap[k]? = some (Obj.cells c e (0, 0)) → w'.heap[k]? = some (Obj.cells c e (0, 0))) (h : ∀ x a, P x a → ∃ x', P' x' a ∧ R x x') :
    ∃ l', OwnX w' base e sz P' v l' ∧ l'.length = l.length ∧ ∀ (k : Nat) (x : α), l[k]? = some x → ∃ x', l'[k]? = some x' ∧ R x x' := by
  obtain ⟨news, hf, h1, h2⟩ := ho
  obtain ⟨l', h3, h4, h5⟩ := hf.like h
  refine ⟨l', ⟨news, h3, by rw [h1, h4], ?_⟩, h4, h5⟩
  rcases h2 with ⟨h2, h0⟩ | ⟨g, cap, cur, rfl, hb, hg, r⟩
  · exact .inl ⟨h2, by rw [h4]; exact h0⟩
  · exact .inr ⟨g, cap, cur, by rw [h4], hb, hk g _ hg, by rw [h4]; exact r⟩
/-- Item by item, something like it; what lies in memory of each item stays. -/
theorem Flat.like2 {α : Type} {P P' : α → List Value → Prop} {R : List Value → α → α → Prop} {sz : Nat} (hs : Shp P sz) (h : ∀ x a, P x a → ∃ x', P' x' a ∧ R a x x') : ∀ {l : List α} {ys : List Value}, Flat P l ys → ∃ l', Flat P' l' ys ∧ l'.length = l.length ∧ ∀ (k : Nat) (x : α), l[k]? = some x → ∃ x' a, l'[k]? = some x' ∧ P x a ∧ R a x x' ∧ ∀ (j : Nat) (u : Value), a[j]? = some u → ys[k * sz + j]? = some u
  | [], _, hf => ⟨[], hf, rfl, by intro k x hk; simp at hk⟩
  | x :: l, _, ⟨a, b, e, hx, hl⟩ => by
    obtain ⟨x', h1, h2⟩ := h x a hx
    obtain ⟨l', h3, h4, h5⟩ := hl.like2 hs h
    refine ⟨x' :: l', ⟨a, b, e, h1, h3⟩, by simp [h4], fun k y hk => ?_⟩
    cases k with
    | zero =>
      simp at hk; subst hk
      refine ⟨x', a, rfl, hx, h2, fun j u hj => ?_⟩
      have hjl := (List.getElem?_eq_some_iff.1 hj).1
      rw [e, Nat.zero_mul, Nat.zero_add, List.getElem?_append_left hjl]
      exact hj
    | succ k =>
      obtain ⟨y', c, h6, h7, h8, h9⟩ := h5 k y (by simpa using hk)
      refine ⟨y', c, by simpa using h6, h7, h8, fun j u hj => ?_⟩
      have ha := (hs _ _ hx).1
      rw [e, List.getElem?_append_right (by rw [ha, Nat.succ_mul]; omega), ha]
      rw [show (k + 1) * sz + j - sz = k * sz + j from by rw [Nat.succ_mul]; omega]
      exact h9 j u hj
theorem OwnX.like2 {α : Type} {P P' : α → List Value → Prop} {R : List Value → α → α → Prop} {sz base e : Nat} {w w' : World} {v : Value} {l : List α} (hs : Shp P sz) (ho : OwnX w base e sz P v l) (hk : ∀ (k : Nat) (c : Array Value), w.heap[k]? = some (Obj.cells c e (0, 0)) → w'.heap[k]? = some (Obj.cells c e (0, 0))) (h : ∀ x a, P x a → ∃ x', P' x' a ∧ R a x x') :
    ∃ l', OwnX w' base e sz P' v l' ∧ l'.length = l.length ∧ ∀ (k : Nat) (x : α), l[k]? = some x → ∃ x' a g n c, v = .slice (some ⟨g, 0, none⟩) n c ∧ l'[k]? = some x' ∧ P x a ∧ R a x x' ∧ ∀ (j : Nat) (u : Value), a[j]? = some u → w.cell? ⟨g, k * sz + j, none⟩ = some u := by
  obtain ⟨news, hf, h1, h2⟩ := ho
  obtain ⟨l', h3, h4, h5⟩ := hf.like2 hs h
  refine ⟨l', ⟨news, h3, by rw [h1, h4], ?_⟩, h4, fun k x hx => ?_⟩
  · rcases h2 with ⟨h2, h0⟩ | ⟨g, cap, cur, rfl, hb, hg, r⟩
    · exact .inl ⟨h2, by rw [h4]; exact h0⟩
    · exact .inr ⟨g, cap, cur, by rw [h4], hb, hk g _ hg, by rw [h4]; exact r⟩
  · obtain ⟨x', a, h6, h7, h8, h9⟩ := h5 k x hx
    rcases h2 with ⟨h2, h0⟩ | ⟨g, cap, cur, rfl, hb, hg, hnc, hm, hcs, htk⟩
    · have := List.length_eq_zero_iff.1 h0; subst this; simp at hx
    · refine ⟨x', a, g, _, _, rfl, h6, h7, h8, fun j u hj => ?_⟩
      have h10 := h9 j u hj
      have hlt := (List.getElem?_eq_some_iff.1 h10).1
      rw [← htk, List.getElem?_take, if_pos (by rw [← h1]; exact hlt)] at h10
      rw [cell_box hg]
      simpa using h10
end Ow
namespace Sb
open Pp
/-- What three stores into the first instruction of the row in block g leave. -/
structure Bent (w W : World) (g : Nat) : Prop where
  oth : ∀ (k : Nat) (c : Array Value) (t : TypeId), w.heap[k]? = some (Obj.cells c t (0, 0)) → k ≠ g → W.heap[k]? = some (Obj.cells c t (0, 0))
  own : ∃ cur, w.heap[g]? = some (Obj.cells cur 45 (0, 0)) ∧ W.heap[g]? = some (Obj.cells (((cur.setIfInBounds 2 (.string ⟨#[65]⟩)).setIfInBounds 3 (.string ⟨#[66]⟩)).setIfInBounds 1 (.int .i64 8589934592)) 45 (0, 0))
theorem Bent.kx {w W : World} {g : Nat} (h : Bent w W g) {e : TypeId} (he : 45 ≠ e) (k : Nat) (c : Array Value) (hk : w.heap[k]? = some (Obj.cells c e (0, 0))) : W.heap[k]? = some (Obj.cells c e (0, 0)) := by
  refine h.oth k c e hk fun hg => ?_
  subst hg
  obtain ⟨cur, h1, _⟩ := h.own
  rw [h1] at hk
  injection hk with hk
  injection hk with _ hk
  exact he hk
theorem Bent.ins {w W : World} {g base : Nat} (h : Bent w W g) {v : Value} {l : List XIns} (ho : Ow.OwnX w base 45 4 InsX v l) : ∃ l', Ow.OwnX W base 45 4 InsX v l' ∧ l'.length = l.length ∧ ((∃ n c, v = .slice (some ⟨g, 0, none⟩) n c) → ∀ x, l[0]? = some x → ∃ x', l'[0]? = some x' ∧ x'.n = 8589934592) := by
  obtain ⟨news, hf, h1, h2⟩ := ho
  rcases h2 with ⟨rfl, h0⟩ | ⟨g', cap, cur, rfl, hb, hg, hnc, hm, hcs, htk⟩
  · exact ⟨l, ⟨news, hf, h1, .inl ⟨rfl, h0⟩⟩, rfl, by rintro ⟨n, c, e⟩; cases e⟩
  · by_cases hgg : g' = g
    · subst hgg
      obtain ⟨cur', k1, k2⟩ := h.own
      rw [hg] at k1; cases k1
      cases l with
      | nil =>
        refine ⟨[], ⟨news, hf, h1, .inr ⟨g', cap, _, rfl, hb, k2, hnc, hm, by simpa using hcs, ?_⟩⟩, rfl, by intro _ x hx; simp at hx⟩
        rw [← htk]; simp
      | cons x l =>
        obtain ⟨a, b, e, ⟨rfl, hx2, hx3⟩, hl⟩ := hf
        refine ⟨⟨x.op, 8589934592, [65], [66]⟩ :: l, ⟨_, ⟨insL ⟨x.op, 8589934592, [65], [66]⟩, b, rfl, ⟨rfl, by show 1 ≤ maxLen; unfold maxLen; omega, by show 1 ≤ maxLen; unfold maxLen; omega⟩, hl⟩, ?_, .inr ⟨g', cap, _, rfl, hb, k2, hnc, hm, by simpa using hcs, ?_⟩⟩, by simp, by intro _ y hy; exact ⟨_, rfl, rfl⟩⟩
        · rw [e] at h1; simpa [insL] using h1
        · have ht := htk
          rw [e] at ht
          simp only [Array.toList_setIfInBounds, List.take_set]
          rw [show (x :: l).length = ((⟨x.op, 8589934592, [65], [66]⟩ : XIns) :: l).length from rfl] at ht
          rw [ht]
          rfl
    · exact ⟨l, ⟨news, hf, h1, .inr ⟨g', cap, cur, rfl, hb, h.oth g' _ _ hg hgg, hnc, hm, hcs, htk⟩⟩, rfl, by rintro ⟨n, c, e⟩; cases e; exact absurd rfl hgg⟩
theorem Bent.mth {w W : World} {g base : Nat} (h : Bent w W g) {m : XMth} {a : List Value} (ho : Ow.MthO w base m a) : ∃ m', Ow.MthO W base m' a ∧ m'.abst = m.abst ∧ ((∃ n c, a[7]? = some (.slice (some ⟨g, 0, none⟩) n c)) → ∀ x, m.code[0]? = some x → ∃ x', m'.code[0]? = some x' ∧ x'.n = 8589934592) := by
  obtain ⟨vp, vc, vk, rfl, h1, h2, h3, l1, l2, l3, l4, l5⟩ := ho
  obtain ⟨cl, k1, k2, k3⟩ := h.ins h2
  refine ⟨{ m with code := cl }, ⟨vp, vc, vk, rfl, h1.keep (fun _ _ h => h) (h.kx (by decide)), k1, h3.keep (fun _ _ h => h) (h.kx (by decide)), l1, l2, l3, by show cl.length ≤ maxLen; rw [k2]; exact l4, l5⟩, rfl, ?_⟩
  rintro ⟨n, c, e⟩
  exact k3 ⟨n, c, by simpa [mthXL] using e⟩
theorem Bent.cls {w W : World} {g base : Nat} (h : Bent w W g) {c : XCls} {a : List Value} (ho : Ow.ClsO w base c a) : ∃ c', Ow.ClsO W base c' a ∧ ∀ (g1 n1 c1 : Nat), a[5]? = some (.slice (some ⟨g1, 0, none⟩) n1 c1) → (∃ n c, w.cell? ⟨g1, 7, none⟩ = some (.slice (some ⟨g, 0, none⟩) n c)) → ∀ m, c.methods[0]? = some m → ∀ x, m.code[0]? = some x → ∃ m' x', c'.methods[0]? = some m' ∧ m'.abst = m.abst ∧ m'.code[0]? = some x' ∧ x'.n = 8589934592 := by
  obtain ⟨vi, vf, vm, rfl, h1, h2, h3, l1, l2, l3, l4, l5⟩ := ho
  obtain ⟨ml, k1, k2, k3⟩ := h3.like2 (P' := Ow.MthO W base) (R := fun a m m' => m'.abst = m.abst ∧ ((∃ n c, a[7]? = some (.slice (some ⟨g, 0, none⟩) n c)) → ∀ x, m.code[0]? = some x → ∃ x', m'.code[0]? = some x' ∧ x'.n = 8589934592)) Ow.shp_mth (h.kx (by decide)) (fun m a hm => by
    obtain ⟨m', h4, h5, h6⟩ := h.mth hm
    exact ⟨m', h4, h5, h6⟩)
  refine ⟨{ c with methods := ml }, ⟨vi, vf, vm, rfl, h1.keep (fun _ _ h => h) (h.kx (by decide)), h2.keep (fun _ _ h => h) (h.kx (by decide)), k1, l1, l2, l3, l4, by show ml.length ≤ maxLen; rw [k2]; exact l5⟩, ?_⟩
  rintro g1 n1 c1 e5 ⟨n, q, e7⟩ m hm x hx
  obtain ⟨m', a, g', n', c', hv, h6, h7, ⟨h8, h9⟩, h10⟩ := k3 0 m hm
  have e5' : vm = .slice (some ⟨g1, 0, none⟩) n1 c1 := by simpa [clsXL] using e5
  rw [e5'] at hv; cases hv
  obtain ⟨vp, vc, vk, rfl, _⟩ := h7
  have h11 := h10 7 vc rfl
  simp only [Nat.zero_mul, Nat.zero_add] at h11
  rw [e7] at h11
  obtain ⟨x', h12, h13⟩ := h9 ⟨n, q, by rw [show (mthXL m vp vc vk)[7]? = some vc from rfl]; exact h11.symm⟩ x hx
  exact ⟨m', x', h6, h8, h12, h13⟩
/-- The program so bent can't be shown. -/
theorem Bent.prog {w W : World} {g base gq nq cq : Nat} (h : Bent w W g) {cs : List XCls} (ho : Ow.ProgO w base (.slice (some ⟨gq, 0, none⟩) nq cq) cs) {i g1 n1 c1 : Nat} {c : XCls} {m : XMth} {x : XIns} (hc : cs[i]? = some c) (hm : c.methods[0]? = some m) (ha : m.abst = false) (hx : m.code[0]? = some x)
    (e5 : w.cell? ⟨gq, i * 6 + 5, none⟩ = some (.slice (some ⟨g1, 0, none⟩) n1 c1)) (e7 : ∃ n c, w.cell? ⟨g1, 7, none⟩ = some (.slice (some ⟨g, 0, none⟩) n c)) : ∃ cs', Ow.ProgO W base (.slice (some ⟨gq, 0, none⟩) nq cq) cs' ∧ progB cs' = false := by
  obtain ⟨cl, k1, k2, k3⟩ := ho.1.like2 (P' := Ow.ClsO W base) (R := fun a c c' => ∀ (g1 n1 c1 : Nat), a[5]? = some (.slice (some ⟨g1, 0, none⟩) n1 c1) → (∃ n c, w.cell? ⟨g1, 7, none⟩ = some (.slice (some ⟨g, 0, none⟩) n c)) → ∀ m, c.methods[0]? = some m → ∀ x, m.code[0]? = some x → ∃ m' x', c'.methods[0]? = some m' ∧ m'.abst = m.abst ∧ m'.code[0]? = some x' ∧ x'.n = 8589934592) Ow.shp_cls (h.kx (by decide)) (fun c a hc => h.cls hc)
  obtain ⟨c', a, g', n', c2, hv, h6, h7, h8, h9⟩ := k3 i c hc
  cases hv
  obtain ⟨vi, vf, vm, rfl, _⟩ := h7
  have h10 := h9 5 vm rfl
  rw [e5] at h10
  obtain ⟨m', x', h11, h12, h13, h14⟩ := h8 g1 n1 c1 (by rw [show (clsXL c vi vf vm)[5]? = some vm from rfl]; exact h10.symm) e7 m hm x hx
  exact ⟨cl, ⟨k1, by rw [k2]; exact ho.2⟩, prog_bad h6 (bad1 h11 (by rw [h12]; exact ha) h13 h14)⟩
end Sb
end Go.Proofs.YtdgfidaopkcjoabDoor

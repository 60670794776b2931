/- Programs that are read, as programs of any numbers, and back. -/
import Derived.Test.YtpngpkbnhepleaaDoorSameA
import Derived.Test.YtpngpkbnhepleaaDoorMemX
import Derived.Test.YtpngpkbnhepleaaDoorMgA
namespace Go.Proofs.YtpngpkbnhepleaaDoor
open Go.RowKit
set_option linter.unusedVariables false
set_option linter.unusedSimpArgs false

/-- A program that is read is not too great, and one of any numbers. -/
theorem light_of {cs : List Pp.Cls} (h : Pp.okProg cs) : Pp.Light (cs.map Pp.clsX) := by
  have nl : ∀ s, Pp.okN s → s.length ≤ 60 := fun s hs => by have := Lx.nameL_len _ hs.1; omega
  have tl : ∀ t, Pp.okTy t → t.name.length ≤ 60 := fun t ht => by
    rcases ht with ⟨_, h2⟩ | ⟨_, h2⟩
    · rw [h2]; simp
    · exact nl _ h2
  refine ⟨by rw [List.length_map]; have := h.1; omega, fun c hc => ?_⟩
  obtain ⟨c', hc', rfl⟩ := List.mem_map.1 hc
  obtain ⟨h1, h2, ⟨h3, h4⟩, ⟨h5, h6⟩, h7, h8⟩ := h.2 c' hc'
  refine ⟨⟨by show c'.fields.length ≤ 14; omega, by show (c'.methods.map Pp.mthX).length ≤ 14; rw [List.length_map]; omega, by show c'.ifaces.length ≤ 10; omega, nl _ h1, ?_⟩, fun f hf => ⟨nl _ (h6 f hf).1, tl _ (h6 f hf).2⟩, fun s hs => nl _ (h4 s hs), fun m hm => ?_⟩
  · show c'.super.length ≤ 60
    rcases h2 with h2 | ⟨_, h2⟩
    · rw [h2]; simp
    · exact nl _ h2
  · obtain ⟨m', hm', rfl⟩ := List.mem_map.1 hm
    obtain ⟨g1, ⟨g2, g3⟩, g4, g5⟩ := h8 m' hm'
    have hcode : m'.code.length ≤ 48 ∧ m'.catches.length ≤ 4 ∧ (∀ i ∈ m'.code, Pp.okIns i) ∧ ∀ c ∈ m'.catches, Pp.okCtc c := by
      rcases g5 with ⟨_, _, e1, e2⟩ | ⟨_, _, ⟨e1, e2⟩, e3, e4⟩
      · rw [e1, e2]; simp
      · exact ⟨e1, e3, e2, e4⟩
    refine ⟨⟨nl _ g1, by show m'.params.length ≤ 10; omega, by show (m'.code.map Pp.insX).length ≤ 60; rw [List.length_map]; omega, by show m'.catches.length ≤ 10; omega, tl _ g4⟩, fun x hx => ?_, fun t ht => tl _ (g3 t ht), fun k hk => nl _ (hcode.2.2.2 k hk).1⟩
    obtain ⟨i, hi, rfl⟩ := List.mem_map.1 hx
    obtain ⟨_, i2⟩ := hcode.2.2.1 i hi
    show i.a.length ≤ 60 ∧ i.b.length ≤ 60
    rcases i2 with ⟨_, _, _, e1, e2⟩ | ⟨_, _, _, e1, e2⟩ | ⟨_, _, _, e1, e2⟩ | ⟨_, _, e1, e2⟩ | ⟨_, _, e1, e2⟩ | ⟨_, _, e1, e2⟩
    · rw [e1, e2]; simp
    · rw [e1, e2]; simp
    · rw [e1, e2]; simp
    · rw [e2]; exact ⟨nl _ e1, by simp⟩
    · exact ⟨nl _ e1, nl _ e2⟩
    · rw [e1, e2]; simp

theorem row_conv {α β : Type} {w : World} {sz : Nat} {P : α → List Value → Prop} {Q : β → List Value → Prop} (f : α → β) {v : Value} {l : List α} (h : RowP w sz P v l) (hp : ∀ x ∈ l, ∀ ys, P x ys → Q (f x) ys) : RowP w sz Q v (l.map f) := by
  obtain ⟨a, c, rfl, hc, h⟩ := h
  refine ⟨a, c, by rw [List.length_map], by rw [List.length_map]; exact hc, ?_⟩
  rcases h with rfl | ⟨b, o, rfl, hlt, hx⟩
  · exact .inl rfl
  · refine .inr ⟨b, o, rfl, hlt, fun k y hk => ?_⟩
    rw [List.getElem?_map, Option.map_eq_some_iff] at hk
    obtain ⟨x, hx', rfl⟩ := hk
    obtain ⟨ys, h1, h2⟩ := hx k x hx'
    exact ⟨ys, hp x (List.mem_of_getElem? hx') ys h1, h2⟩
theorem row_same {α : Type} {w : World} {sz : Nat} {P Q : α → List Value → Prop} {v : Value} {l : List α} (h : RowP w sz P v l) (hp : ∀ x ∈ l, ∀ ys, P x ys → Q x ys) : RowP w sz Q v l := by
  have := row_conv (fun x => x) h hp
  rwa [List.map_id'] at this
theorem len60 (n : Nat) (h : n ≤ 60) : n ≤ maxLen := by unfold maxLen; omega
theorem mthX_of {w : World} {m : Pp.Mth} {ys : List Value} (hl : Pp.LtM (Pp.mthX m)) (h : MthP w m ys) : MthX w (Pp.mthX m) ys := by
  obtain ⟨vp, vc, vk, rfl, h1, h2, h3⟩ := h
  obtain ⟨⟨l1, l2, l3, l4, l5⟩, l6, l7, l8⟩ := hl
  refine ⟨vp, vc, vk, rfl, row_same h1 fun t ht ys e => ⟨e, len60 _ (l7 t ht)⟩, ?_, row_same h3 fun k hk ys e => ⟨e, len60 _ (l8 k hk)⟩, len60 _ l1, len60 _ l5, len60 _ (by omega), len60 _ l3, len60 _ (by omega)⟩
  exact row_conv Pp.insX h2 fun i hi ys e => ⟨e, len60 _ (l6 _ (List.mem_map_of_mem hi)).1, len60 _ (l6 _ (List.mem_map_of_mem hi)).2⟩
theorem clsX_of {w : World} {c : Pp.Cls} {ys : List Value} (hl : Pp.LtC (Pp.clsX c)) (h : ClsP w c ys) : ClsX w (Pp.clsX c) ys := by
  obtain ⟨vi, vf, vm, rfl, h1, h2, h3⟩ := h
  obtain ⟨⟨l1, l2, l3, l4, l5⟩, l6, l7, l8⟩ := hl
  refine ⟨vi, vf, vm, rfl, row_same h1 fun s hs ys e => ⟨e, len60 _ (l7 s hs)⟩, row_same h2 fun f hf ys e => ⟨e, len60 _ (l6 f hf).1, len60 _ (l6 f hf).2⟩, ?_, len60 _ l4, len60 _ l5, len60 _ (by omega), len60 _ (by omega), len60 _ (by omega)⟩
  exact row_conv Pp.mthX h3 fun m hm ys e => mthX_of (l8 _ (List.mem_map_of_mem hm)) e
theorem progX_of {w : World} {v : Value} {cs : List Pp.Cls} (hk : Pp.okProg cs) (h : ProgP w v cs) : ProgX w v (cs.map Pp.clsX) := by
  have hl := light_of hk
  exact ⟨row_conv Pp.clsX h fun c hc ys e => clsX_of (hl.2 _ (List.mem_map_of_mem hc)) e, len60 _ (by have := hl.1; omega)⟩
theorem mthP_of {w : World} {m : Pp.XMth} {ys : List Value} (hp : ∀ i ∈ m.code, 0 ≤ i.op) (h : MthX w m ys) : MthP w m.toP ys := by
  obtain ⟨vp, vc, vk, rfl, h1, h2, h3, _⟩ := h
  refine ⟨vp, vc, vk, rfl, row_same h1 fun t ht ys e => e.1, ?_, row_same h3 fun k hk ys e => e.1⟩
  refine row_conv Pp.XIns.toP h2 fun i hi ys e => ?_
  rw [e.1]
  show insL i = [.int .i64 ((i.op.toNat : Nat) : Int), .int .i64 i.n, .string ⟨i.a.toArray⟩, .string ⟨i.b.toArray⟩]
  rw [Int.toNat_of_nonneg (hp i hi)]
  rfl
theorem clsP_of {w : World} {c : Pp.XCls} {ys : List Value} (hp : Pp.posX c) (h : ClsX w c ys) : ClsP w c.toP ys := by
  obtain ⟨vi, vf, vm, rfl, h1, h2, h3, _⟩ := h
  exact ⟨vi, vf, vm, rfl, row_same h1 fun s hs ys e => e.1, row_same h2 fun f hf ys e => e.1, row_conv Pp.XMth.toP h3 fun m hm ys e => mthP_of (hp m hm) e⟩
theorem progP_of {w : World} {v : Value} {cs : List Pp.XCls} (hp : ∀ c ∈ cs, Pp.posX c) (h : RowX w 6 (ClsX w) v cs) : ProgP w v (cs.map Pp.XCls.toP) := row_conv Pp.XCls.toP h fun c hc ys e => clsP_of (hp c hc) e
theorem pos_of (cs : List Pp.Cls) : ∀ c ∈ cs.map Pp.clsX, Pp.posX c := by
  intro c hc
  obtain ⟨c', _, rfl⟩ := List.mem_map.1 hc
  intro m hm i hi
  obtain ⟨m', _, rfl⟩ := List.mem_map.1 hm
  obtain ⟨i', _, rfl⟩ := List.mem_map.1 hi
  exact Int.natCast_nonneg _
theorem toP_all (cs : List Pp.Cls) : (cs.map Pp.clsX).map Pp.XCls.toP = cs := by
  rw [List.map_map]
  exact (List.map_congr_left (fun i _ => Pp.toP_cls i)).trans (List.map_id _)

end Go.Proofs.YtpngpkbnhepleaaDoor

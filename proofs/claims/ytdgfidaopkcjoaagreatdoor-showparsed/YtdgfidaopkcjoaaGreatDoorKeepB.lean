/- A program that Program has made is one in memory; the words of a scan, joined. -/
import Derived.Test.YtdgfidaopkcjoaaGreatDoorSameA
import Derived.Test.YtdgfidaopkcjoaaGreatDoorWakes1
import Derived.Test.YtdgfidaopkcjoaaGreatDoorMgA
namespace Go.Proofs.YtdgfidaopkcjoaaGreatDoor
open Go.RowKit
set_option linter.unusedVariables false
set_option linter.unusedSimpArgs false

theorem flat_get {α : Type} (f : α → List Value) (sz : Nat) (hf : ∀ x, (f x).length = sz) : ∀ (l : List α) (k j : Nat) (x : α), l[k]? = some x → j < sz → (l.flatMap f)[k * sz + j]? = (f x)[j]?
  | [], k, j, x, h, _ => by simp at h
  | y :: r, 0, j, x, h, hj => by
    simp at h; subst h
    rw [List.flatMap_cons, Nat.zero_mul, Nat.zero_add, List.getElem?_append_left (by rw [hf]; exact hj)]
  | y :: r, k + 1, j, x, h, hj => by
    rw [List.flatMap_cons, List.getElem?_append_right (by rw [hf, Nat.add_mul]; omega), hf, show (k + 1) * sz + j - sz = k * sz + j from by rw [Nat.add_mul]; omega]
    exact flat_get f sz hf r k j x (by simpa using h) hj
theorem own_rowP {α : Type} {w : World} {base e sz : Nat} {v : Value} {l : List α} (f : α → List Value) (hf : ∀ x, (f x).length = sz) (P : α → List Value → Prop) (hP : ∀ x, P x (f x)) (h : w.ownsRow base e sz v l.length (l.flatMap f)) : RowP w sz P v l := by
  by_cases hl : l = []
  · obtain ⟨a, c, rfl⟩ := own_shapeV h
    refine ⟨a, c, rfl, by rw [hl]; simp, .inl hl⟩
  · obtain ⟨g, cap, rfl, _, hg, hnc, _, hc⟩ := own_some h (List.length_pos_iff.2 hl)
    refine ⟨_, cap, rfl, hnc, .inr ⟨g, 0, rfl, hg, fun k x hk => ⟨f x, hP x, fun j u hj => ?_⟩⟩⟩
    have hlt : j < sz := by
      rw [← hf x]
      rcases Nat.lt_or_ge j (f x).length with h1 | h1
      · exact h1
      · rw [List.getElem?_eq_none h1] at hj; cases hj
    rw [Nat.zero_add]
    exact hc _ _ (by rw [flat_get f sz hf l k j x hk hlt]; exact hj)
theorem mthsIs_get {w : World} {base : Nat} : ∀ {ms : List Pp.Mth} {xs : List Value}, MthsIs w base ms xs → ∀ (k : Nat) (m : Pp.Mth), ms[k]? = some m → ∃ vp vc vk, MthRows w base m vp vc vk ∧ ∀ j u, (mthC m vp vc vk)[j]? = some u → xs[k * 9 + j]? = some u
  | [], xs, h, k, m, hk => by simp at hk
  | a :: r, xs, ⟨vp, vc, vk, ys, e, h1, h2⟩, 0, m, hk => by
    simp at hk; subst hk
    refine ⟨vp, vc, vk, h1, fun j u hj => ?_⟩
    have hlt : j < 9 := by
      rcases Nat.lt_or_ge j (mthC a vp vc vk).length with h1 | h1
      · exact h1
      · rw [List.getElem?_eq_none h1] at hj; cases hj
    rw [e, Nat.zero_mul, Nat.zero_add, List.getElem?_append_left (by exact hlt)]; exact hj
  | a :: r, xs, ⟨vp, vc, vk, ys, e, h1, h2⟩, k + 1, m, hk => by
    obtain ⟨vp', vc', vk', g1, g2⟩ := mthsIs_get h2 k m (by simpa using hk)
    refine ⟨vp', vc', vk', g1, fun j u hj => ?_⟩
    rw [e, List.getElem?_append_right (by show 9 ≤ _; omega), show (k + 1) * 9 + j - (mthC a vp vc vk).length = k * 9 + j from by show (k + 1) * 9 + j - 9 = _; omega]
    exact g2 j u hj
theorem mthRows_P {w : World} {base : Nat} {m : Pp.Mth} {vp vc vk : Value} (h : MthRows w base m vp vc vk) : MthP w m (mthC m vp vc vk) :=
  ⟨vp, vc, vk, rfl, own_rowP (fun x : Pp.Ty => [.int .i64 x.kind, .string ⟨x.name.toArray⟩]) (fun _ => rfl) TyP (fun _ => rfl) h.1, own_rowP insCells (fun _ => rfl) InsP (fun _ => rfl) h.2.1, own_rowP ctcCells (fun _ => rfl) CtcP (fun _ => rfl) h.2.2⟩
theorem clsRows_P {w : World} {base : Nat} {c : Pp.Cls} {vi vf vm : Value} (h : ClsRows w base c vi vf vm) : ClsP w c (clsC c vi vf vm) := by
  obtain ⟨h1, xs, h2, h3, h4⟩ := h
  refine ⟨vi, vf, vm, rfl, own_rowP (fun x : Pp.Bs => [.string ⟨x.toArray⟩]) (fun _ => rfl) StrP (fun _ => rfl) h1, own_rowP fldCells (fun _ => rfl) FldP (fun _ => rfl) h2, ?_⟩
  by_cases hl : c.methods = []
  · obtain ⟨a, cc, rfl⟩ := own_shapeV h3
    refine ⟨a, cc, rfl, by rw [hl]; simp, .inl hl⟩
  · obtain ⟨g, cap, rfl, _, hg, hnc, _, hc⟩ := own_some h3 (List.length_pos_iff.2 hl)
    refine ⟨_, cap, rfl, hnc, .inr ⟨g, 0, rfl, hg, fun k x hk => ?_⟩⟩
    obtain ⟨vp, vc, vk, g1, g2⟩ := mthsIs_get h4 k x hk
    refine ⟨_, mthRows_P g1, fun j u hj => ?_⟩
    rw [Nat.zero_add]
    exact hc _ _ (g2 j u hj)
theorem clssIs_get {w : World} {base : Nat} : ∀ {cs : List Pp.Cls} {xs : List Value}, ClssIs w base cs xs → ∀ (k : Nat) (c : Pp.Cls), cs[k]? = some c → ∃ vi vf vm, ClsRows w base c vi vf vm ∧ ∀ j u, (clsC c vi vf vm)[j]? = some u → xs[k * 6 + j]? = some u
  | [], xs, h, k, m, hk => by simp at hk
  | a :: r, xs, ⟨vp, vc, vk, ys, e, h1, h2⟩, 0, m, hk => by
    simp at hk; subst hk
    refine ⟨vp, vc, vk, h1, fun j u hj => ?_⟩
    have hlt : j < 6 := by
      rcases Nat.lt_or_ge j (clsC a vp vc vk).length with h1 | h1
      · exact h1
      · rw [List.getElem?_eq_none h1] at hj; cases hj
    rw [e, Nat.zero_mul, Nat.zero_add, List.getElem?_append_left (by exact hlt)]; exact hj
  | a :: r, xs, ⟨vp, vc, vk, ys, e, h1, h2⟩, k + 1, m, hk => by
    obtain ⟨vp', vc', vk', g1, g2⟩ := clssIs_get h2 k m (by simpa using hk)
    refine ⟨vp', vc', vk', g1, fun j u hj => ?_⟩
    rw [e, List.getElem?_append_right (by show 6 ≤ _; omega), show (k + 1) * 6 + j - (clsC a vp vc vk).length = k * 6 + j from by show (k + 1) * 6 + j - 6 = _; omega]
    exact g2 j u hj
theorem progIs_P {w : World} {base : Nat} {cs : List Pp.Cls} {v : Value} (h : ProgIs w base cs v) : ProgP w v cs := by
  obtain ⟨xs, h1, h2⟩ := h
  by_cases hl : cs = []
  · obtain ⟨a, cc, rfl⟩ := own_shapeV h1
    refine ⟨a, cc, rfl, by rw [hl]; simp, .inl hl⟩
  · obtain ⟨g, cap, rfl, _, hg, hnc, _, hc⟩ := own_some h1 (List.length_pos_iff.2 hl)
    refine ⟨_, cap, rfl, hnc, .inr ⟨g, 0, rfl, hg, fun k x hk => ?_⟩⟩
    obtain ⟨vp, vc, vk, g1, g2⟩ := clssIs_get h2 k x hk
    refine ⟨_, clsRows_P g1, fun j u hj => ?_⟩
    rw [Nat.zero_add]
    exact hc _ _ (g2 j u hj)

namespace Lx
def toA (t : Tok) : ATok := ⟨t.kind, t.text, t.num, t.pos⟩
theorem wordA_valid (t : Tok) (h : ValidT t) : wordA (toA t) = some (tokW t) := by
  obtain ⟨k, s, n, p⟩ := t
  rcases h with ⟨h1, h2, h3⟩ | ⟨h1, h2, h3⟩ | ⟨h1, h2, h3, h4⟩
  · simp only at h1 h2 h3
    subst h1 h3
    simp [wordA, toA, tokW, h2]
  · simp only at h1 h2 h3
    subst h1 h3
    simp [wordA, toA, tokW, h2]
  · simp only at h1 h2 h3 h4
    subst h1 h2
    simp [wordA, toA, tokW, h3, h4]
theorem placed_valid (bs : List UInt8) : ∀ (l : List Tok) (p : Nat), Placed bs p l → ∀ t ∈ l, ValidT t
  | [], p, h, t, ht => by simp at ht
  | x :: r, p, h, t, ht => by
    obtain ⟨h1, h2, h3, h4, h5, h6⟩ := h
    rcases List.mem_cons.1 ht with rfl | ht
    · exact h2
    · exact placed_valid bs r _ h6 t ht
theorem scanL_valid (bs : List UInt8) : ∀ t ∈ (scanL bs).1, ValidT t := by
  by_cases hn : bs.length ≤ 6000
  · rcases scanL_placed bs hn (scanL bs).1 (scanL bs).2.1 (scanL bs).2.2 rfl with ⟨_, _, h⟩ | ⟨_, h, _⟩
    · exact placed_valid bs _ _ h
    · rw [h]; simp
  · rw [scanL, if_pos (by omega)]; simp
theorem joinGo_all : ∀ (ts : List ATok) (f : Bool) (acc : List UInt8), (∀ t ∈ ts, ∃ l, wordA t = some l) → ∃ b, joinGo ts f acc = some b
  | [], f, acc, h => ⟨acc, rfl⟩
  | t :: r, f, acc, h => by
    obtain ⟨l, hl⟩ := h t (by simp)
    rw [joinGo, hl]
    exact joinGo_all r _ _ (fun x hx => h x (by simp [hx]))
theorem joinL_scan (l : List Tok) (h : ∀ t ∈ l, ValidT t) : ∃ b, joinL (l.map toA) = some b := joinGo_all _ _ _ (fun t ht => by
  obtain ⟨x, hx, rfl⟩ := List.mem_map.1 ht
  exact ⟨_, wordA_valid x (h x hx)⟩)
theorem bare_toA (l : List Tok) : (l.map toA).map bareA = l.map bare := by rw [List.map_map]; rfl
theorem bare_wd {l l' : List Tok} (h : l.map bare = l'.map bare) : l.map Pp.wd = l'.map Pp.wd := by
  have h2 := congrArg (List.map fun (x : Int × List UInt8 × Int) => (⟨x.1, x.2.1, x.2.2⟩ : Pp.Wd)) h
  rw [List.map_map, List.map_map] at h2
  exact h2
end Lx
namespace Pp
/-- The words alone tell the program. -/
theorem program_words {b c : List UInt8} {l l' : List Lx.Tok} (hb : Lx.scanL b = (l, 0, 0)) (hc : Lx.scanL c = (l', 0, 0)) (h : l.map wd = l'.map wd) : (program b).1 = (program c).1 ∧ (program b).2.2 = (program c).2.2 := by
  simp only [program, hb, hc, h]
  split <;> exact ⟨rfl, rfl⟩
end Pp

end Go.Proofs.YtdgfidaopkcjoaaGreatDoor

/- The program of ParseTypes in memory; Program over a text that was put together. -/
import Derived.Test.YtpngpkbnhepleabDoorTypesP
import Derived.Test.YtpngpkbnhepleabDoorSameT
import Derived.Test.YtpngpkbnhepleabDoorKeepB
import Derived.Test.YtpngpkbnhepleabDoorProgStr
namespace Go.Proofs.YtpngpkbnhepleabDoor
open Go.RowKit
set_option linter.unusedVariables false
set_option linter.unusedSimpArgs false

theorem Program_txt (w : World) (b N : Nat) (X S : ByteArray) (cs : List Pp.Cls) (hb : b = w.heap.size) (hN : X.size = N) (hX : X = S) (hp : Pp.program S.data.toList = (cs, 0, 0)) (ht : TabS w) (hs : S.size ≤ 6000) :
    Calls Tryd.prog 6 #[.slice (some ⟨b, 0, none⟩) N (grownCap w N 0 5)] (Lib.bytesWorld w 5 X) fun e w' => ∃ v, e = .returned (.tuple #[.agg #[v], .int .i64 0, .int .i64 0]) ∧ ProgP w' v cs ∧ Below w.heap.size w w' := by
  subst hb hN hX
  have hb : Below w.heap.size w (Lib.bytesWorld w 5 X) := ⟨rfl, rfl, rfl, by rw [Lib.bytesWorld_size]; omega, fun k hk => Lib.bytesWorld_at_old w 5 X k hk⟩
  have hsc : Scans (Lib.bytesWorld w 5 X) (.slice (some ⟨w.heap.size, 0, none⟩) X.size (grownCap w X.size 0 5)) X.data.toList := by
    have h := scans_of (Lib.bytesWorld w 5 X) X.data.toList w.heap.size 0 (grownCap w X.size 0 5) (by rw [Lx.toList_len]; exact hs) (by rw [Lx.toList_len]; exact grownCap_ge _ _ _ _) (by rw [Lib.bytesWorld_size]; omega) (fun k hk => by rw [Nat.zero_add, Lib.bytesWorld_cell _ _ _ _ (by rw [← Lx.toList_len]; exact hk)])
    rw [Lx.toList_len] at h
    exact h
  refine (Program_any hsc (Lx.toList_len X).symm (by unfold maxLen; omega) (ht.below hb)).mono fun e w' ⟨v, h1, h2, h3⟩ => ?_
  rw [hp] at h1 h2
  exact ⟨v, h1, progIs_P h2, hb.trans (h3.mono (by rw [Lib.bytesWorld_size]; omega))⟩
theorem str_cat (a b : List UInt8) : (⟨a.toArray⟩ : ByteArray) ++ ⟨b.toArray⟩ = ⟨(a ++ b).toArray⟩ := by
  apply ByteArray.ext
  rw [ByteArray.data_append]
  show a.toArray ++ b.toArray = (a ++ b).toArray
  apply Array.ext'
  simp
theorem rowP_two (w : World) (t : Pp.Ty) (nB : ByteArray) (h : nB = ⟨t.name.toArray⟩) : RowP (w.alloc (.cells #[.int .i64 t.kind, .string nB, .int .i64 t.kind, .string nB] 36)) 2 TyP (.slice (some ⟨w.heap.size, 0, none⟩) 2 2) [t, t] := by
  subst h
  refine ⟨_, 2, rfl, Nat.le_refl _, .inr ⟨w.heap.size, 0, rfl, by simp, fun k x hk => ⟨_, rfl, fun j u hj => ?_⟩⟩⟩
  rw [cell_box (heap_alloc_new w _), Nat.zero_add]
  match k, hk with
  | 0, hk =>
    simp at hk; subst hk
    match j, hj with
    | 0, hj => simpa using hj
    | 1, hj => simpa using hj
    | j + 2, hj => simp at hj
  | 1, hk =>
    simp at hk; subst hk
    match j, hj with
    | 0, hj => simpa using hj
    | 1, hj => simpa using hj
    | j + 2, hj => simp at hj
  | k + 2, hk => simp at hk
theorem RowP.one {α : Type} {w : World} {sz : Nat} {P : α → List Value → Prop} {v : Value} {x : α} (h : RowP w sz P v [x]) : ∃ g o c ys, v = .slice (some ⟨g, o, none⟩) 1 c ∧ 1 ≤ c ∧ g < w.heap.size ∧ P x ys ∧ ∀ (j : Nat) (u : Value), ys[j]? = some u → w.cell? ⟨g, o + j, none⟩ = some u := by
  obtain ⟨a, c, rfl, hc, h⟩ := h
  rcases h with h | ⟨b, o, rfl, hlt, hx⟩
  · cases h
  · obtain ⟨ys, h1, h2⟩ := hx 0 x rfl
    exact ⟨b, o, c, ys, rfl, hc, hlt, h1, fun j u hj => by have := h2 j u hj; rw [Nat.zero_mul, Nat.add_zero] at this; exact this⟩
/-- The program of ParseTypes in memory, cell by cell. -/
theorem tyProg_mem {w : World} {v : Value} {t : Pp.Ty} (h : ProgP w v (Pp.tyProg t)) : ∃ g o c g1 o1 c1 g2 o2 c2 pa pc ca cc ka kc, v = .slice (some ⟨g, o, none⟩) 1 c ∧ (g < w.heap.size ∧ g1 < w.heap.size ∧ g2 < w.heap.size) ∧
    w.cell? ⟨g, o + 1, none⟩ = some (.bool true) ∧ w.cell? ⟨g, o + 4, none⟩ = some (.slice (some ⟨g1, o1, none⟩) 1 c1) ∧ w.cell? ⟨g, o + 5, none⟩ = some (.slice (some ⟨g2, o2, none⟩) 1 c2) ∧
    w.cell? ⟨g1, o1 + 1, none⟩ = some (.int .i64 t.kind) ∧ w.cell? ⟨g1, o1 + 2, none⟩ = some (.string ⟨t.name.toArray⟩) ∧
    (w.cell? ⟨g2, o2, none⟩ = some (.string ⟨#[109]⟩) ∧ w.cell? ⟨g2, o2 + 1, none⟩ = some (.bool false) ∧ w.cell? ⟨g2, o2 + 2, none⟩ = some (.bool true) ∧ w.cell? ⟨g2, o2 + 3, none⟩ = some (.slice pa 2 pc) ∧ w.cell? ⟨g2, o2 + 4, none⟩ = some (.int .i64 t.kind) ∧ w.cell? ⟨g2, o2 + 5, none⟩ = some (.string ⟨t.name.toArray⟩) ∧ w.cell? ⟨g2, o2 + 6, none⟩ = some (.int .i64 0) ∧ w.cell? ⟨g2, o2 + 7, none⟩ = some (.slice ca 0 cc) ∧ w.cell? ⟨g2, o2 + 8, none⟩ = some (.slice ka 0 kc)) ∧
    RowP w 2 TyP (.slice pa 2 pc) [t, t] := by
  obtain ⟨g, o, c, ys, rfl, _, hg, ⟨vi, vf, vm, rfl, hi, hf, hm⟩, hc⟩ := RowP.one h
  obtain ⟨g1, o1, c1, ys1, rfl, _, hg1, hy1, hc1⟩ := RowP.one hf
  obtain rfl : ys1 = _ := hy1
  obtain ⟨g2, o2, c2, ys2, rfl, _, hg2, ⟨vp, vc, vk, rfl, hp, hcd, hk⟩, hc2⟩ := RowP.one hm
  obtain ⟨pa, pc, rfl, _⟩ := hp.len
  obtain ⟨ca, cc, rfl, _⟩ := hcd.len
  obtain ⟨ka, kc, rfl, _⟩ := hk.len
  exact ⟨g, o, c, g1, o1, c1, g2, o2, c2, pa, pc, ca, cc, ka, kc, rfl, ⟨hg, hg1, hg2⟩, hc 1 _ rfl, hc 4 _ rfl, hc 5 _ rfl, hc1 1 _ rfl, hc1 2 _ rfl, ⟨hc2 0 _ rfl, hc2 1 _ rfl, hc2 2 _ rfl, hc2 3 _ rfl, hc2 4 _ rfl, hc2 5 _ rfl, hc2 6 _ rfl, hc2 7 _ rfl, hc2 8 _ rfl⟩, hp⟩

end Go.Proofs.YtpngpkbnhepleabDoor

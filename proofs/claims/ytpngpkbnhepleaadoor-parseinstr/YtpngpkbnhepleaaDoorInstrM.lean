/- The program of ParseInstr in memory; Program over texts that were put together. -/
import Derived.Test.YtpngpkbnhepleaaDoorInstrP
import Derived.Test.YtpngpkbnhepleaaDoorDigitsP
import Derived.Test.YtpngpkbnhepleaaDoorKeepB
import Derived.Test.YtpngpkbnhepleaaDoorOpX
namespace Go.Proofs.YtpngpkbnhepleaaDoor
open Go.RowKit
set_option linter.unusedVariables false
set_option linter.unusedSimpArgs false

theorem Program_txt (w : World) (b N : Nat) (X S : ByteArray) (cs : List Pp.Cls) (hb : b = w.heap.size) (hN : X.size = N) (hX : X = S) (hp : Pp.program S.data.toList = (cs, 0, 0)) (ht : TabS w) (hs : S.size ≤ 6000) :
    Calls Tryd.prog 10 #[.slice (some ⟨b, 0, none⟩) N (grownCap w N 0 5)] (Lib.bytesWorld w 5 X) fun e w' => ∃ v, e = .returned (.tuple #[.agg #[v], .int .i64 0, .int .i64 0]) ∧ ProgP w' v cs ∧ Below w.heap.size w w' := by
  subst hb hN hX
  have hb : Below w.heap.size w (Lib.bytesWorld w 5 X) := ⟨rfl, rfl, rfl, by rw [Lib.bytesWorld_size]; omega, fun k hk => Lib.bytesWorld_at_old w 5 X k hk⟩
  have hsc : Scans (Lib.bytesWorld w 5 X) (.slice (some ⟨w.heap.size, 0, none⟩) X.size (grownCap w X.size 0 5)) X.data.toList := by
    have h := scans_of (Lib.bytesWorld w 5 X) X.data.toList w.heap.size 0 (grownCap w X.size 0 5) (by rw [Lx.toList_len]; exact hs) (by rw [Lx.toList_len]; exact grownCap_ge _ _ _ _) (by rw [Lib.bytesWorld_size]; omega) (fun k hk => by rw [Nat.zero_add, Lib.bytesWorld_cell _ _ _ _ (by rw [← Lx.toList_len]; exact hk)])
    rw [Lx.toList_len] at h
    exact h
  refine (Program_any hsc (Lx.toList_len X).symm (by unfold maxLen; omega) (ht.below hb)).mono fun e w' ⟨v, h1, h2, h3⟩ => ?_
  rw [hp] at h1 h2
  exact ⟨v, h1, progIs_P h2, hb.trans (h3.mono (by rw [Lib.bytesWorld_size]; omega))⟩
theorem str_cat (a b : List UInt8) : (⟨a.toArray⟩ : ByteArray) ++ ⟨b.toArray⟩ = ⟨(a ++ b).toArray⟩ := by
  apply ByteArray.ext
  rw [ByteArray.data_append]
  show a.toArray ++ b.toArray = (a ++ b).toArray
  apply Array.ext'
  simp
theorem Program_txtF (w : World) (b N : Nat) (X S : ByteArray) (hb : b = w.heap.size) (hN : X.size = N) (hX : X = S) (hp : (Pp.program S.data.toList).2.2 = 4) (ht : TabS w) (hs : S.size ≤ 6000) :
    Calls Tryd.prog 10 #[.slice (some ⟨b, 0, none⟩) N (grownCap w N 0 5)] (Lib.bytesWorld w 5 X) fun e w' => ∃ a n c p, e = .returned (.tuple #[.agg #[.slice a n c], .int .i64 p, .int .i64 4]) ∧ Below w.heap.size w w' := by
  subst hb hN hX
  have hb : Below w.heap.size w (Lib.bytesWorld w 5 X) := ⟨rfl, rfl, rfl, by rw [Lib.bytesWorld_size]; omega, fun k hk => Lib.bytesWorld_at_old w 5 X k hk⟩
  have hsc : Scans (Lib.bytesWorld w 5 X) (.slice (some ⟨w.heap.size, 0, none⟩) X.size (grownCap w X.size 0 5)) X.data.toList := by
    have h := scans_of (Lib.bytesWorld w 5 X) X.data.toList w.heap.size 0 (grownCap w X.size 0 5) (by rw [Lx.toList_len]; exact hs) (by rw [Lx.toList_len]; exact grownCap_ge _ _ _ _) (by rw [Lib.bytesWorld_size]; omega) (fun k hk => by rw [Nat.zero_add, Lib.bytesWorld_cell _ _ _ _ (by rw [← Lx.toList_len]; exact hk)])
    rw [Lx.toList_len] at h
    exact h
  refine (Program_any hsc (Lx.toList_len X).symm (by unfold maxLen; omega) (ht.below hb)).mono fun e w' ⟨v, h1, h2, h3⟩ => ?_
  rw [hp] at h1
  obtain ⟨a, c, rfl⟩ := h2.shape
  exact ⟨a, _, c, _, h1, hb.trans (h3.mono (by rw [Lib.bytesWorld_size]; omega))⟩
theorem RowP.one {α : Type} {w : World} {sz : Nat} {P : α → List Value → Prop} {v : Value} {x : α} (h : RowP w sz P v [x]) : ∃ g o c ys, v = .slice (some ⟨g, o, none⟩) 1 c ∧ 1 ≤ c ∧ g < w.heap.size ∧ P x ys ∧ ∀ (j : Nat) (u : Value), ys[j]? = some u → w.cell? ⟨g, o + j, none⟩ = some u := by
  obtain ⟨a, c, rfl, hc, h⟩ := h
  rcases h with h | ⟨b, o, rfl, hlt, hx⟩
  · cases h
  · obtain ⟨ys, h1, h2⟩ := hx 0 x rfl
    exact ⟨b, o, c, ys, rfl, hc, hlt, h1, fun j u hj => by have := h2 j u hj; rw [Nat.zero_mul, Nat.add_zero] at this; exact this⟩
/-- The program of ParseInstr in memory, cell by cell. -/
theorem insProg_mem {w : World} {v : Value} {i : Pp.Ins} (h : ProgP w v (Pp.insProg i)) : ∃ g o c g2 o2 c2 g3 o3 c3, v = .slice (some ⟨g, o, none⟩) 1 c ∧ (g < w.heap.size ∧ g2 < w.heap.size ∧ g3 < w.heap.size) ∧
    w.cell? ⟨g, o + 5, none⟩ = some (.slice (some ⟨g2, o2, none⟩) 1 c2) ∧ w.cell? ⟨g2, o2 + 7, none⟩ = some (.slice (some ⟨g3, o3, none⟩) 1 c3) ∧
    w.cell? ⟨g3, o3, none⟩ = some (.int .i64 (i.op : Int)) ∧ w.cell? ⟨g3, o3 + 1, none⟩ = some (.int .i64 i.n) ∧ w.cell? ⟨g3, o3 + 2, none⟩ = some (.string ⟨i.a.toArray⟩) ∧ w.cell? ⟨g3, o3 + 3, none⟩ = some (.string ⟨i.b.toArray⟩) := by
  obtain ⟨g, o, c, ys, rfl, _, hg, ⟨vi, vf, vm, rfl, hi, hf, hm⟩, hc⟩ := RowP.one h
  obtain ⟨g2, o2, c2, ys2, rfl, _, hg2, ⟨vp, vc, vk, rfl, hp, hcd, hk⟩, hc2⟩ := RowP.one hm
  obtain ⟨g3, o3, c3, ys3, rfl, _, hg3, hy3, hc3⟩ := RowP.one hcd
  obtain rfl : ys3 = _ := hy3
  exact ⟨g, o, c, g2, o2, c2, g3, o3, c3, rfl, ⟨hg, hg2, hg3⟩, hc 5 _ rfl, hc2 7 _ rfl, hc3 0 _ rfl, hc3 1 _ rfl, hc3 2 _ rfl, hc3 3 _ rfl⟩

end Go.Proofs.YtpngpkbnhepleaaDoor

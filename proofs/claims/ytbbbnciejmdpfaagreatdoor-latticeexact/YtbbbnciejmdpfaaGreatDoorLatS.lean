/- The page's way to what two classes meet in: along the row of the first one. -/
import Derived.Test.YtbbbnciejmdpfaaGreatDoorPkBa
set_option maxRecDepth 100000
set_option maxHeartbeats 64000000
set_option linter.unusedVariables false
set_option linter.unusedSimpArgs false
namespace Go.Proofs.YtbbbnciejmdpfaaGreatDoor
open Go.RowKit
namespace Lx
open Pp Hr
theorem row_walk {cs : List XCls} {up : List (List Nat)} (he : errL cs = 0) (hg : growL (allL cs) (allL cs) = some up) : ∀ (i k : Nat), k < (allL cs).length -> ∀ z, (Ly.rowP (allL cs) up k)[i]? = some z ->
 z < (allL cs).length /\ (superL (Ly.clP (allL cs) z) = none -> (Ly.rowP (allL cs) up k).length = i + 1) /\ ∀ s, superL (Ly.clP (allL cs) z) = some s -> ∃ q, (Ly.rowP (allL cs) up k)[i + 1]? = some q /\ (Ly.clP (allL cs) q).name = s
 | 0, k, hk, z, hz => by
   cases hs : superL (Ly.clP (allL cs) k) with
   | none =>
     rw [Ly.row_none he hg hs] at hz ⊢; simp at hz; subst hz; exact ⟨hk, fun _ => rfl, fun s h => by rw [hs] at h; cases h⟩
   | some s =>
     obtain ⟨q, e1, e2, e3, _, _⟩ := Ly.super_at he hg hk hs; rw [Ly.row_some he hg hk hs e1] at hz ⊢; simp at hz; subst hz; refine ⟨hk, fun h => (by rw [hs] at h; cases h), fun s' h => ?_⟩
     rw [hs] at h; cases h; refine ⟨q, ?_, e3⟩; rw [List.getElem?_cons_succ]; cases hs2 : superL (Ly.clP (allL cs) q) with
     | none => rw [Ly.row_none he hg hs2]; rfl
     | some s2 =>
       obtain ⟨q2, f1, f2, _⟩ := Ly.super_at he hg e2 hs2; rw [Ly.row_some he hg e2 hs2 f1]; rfl
 | i + 1, k, hk, z, hz => by
   cases hs : superL (Ly.clP (allL cs) k) with
   | none =>
     rw [Ly.row_none he hg hs] at hz; simp at hz
   | some s =>
     obtain ⟨q, e1, e2, e3, _, _⟩ := Ly.super_at he hg hk hs; rw [Ly.row_some he hg hk hs e1] at hz ⊢; rw [List.getElem?_cons_succ] at hz; obtain ⟨h1, h2, h3⟩ := row_walk he hg i q e2 z hz; refine ⟨h1, fun h => by rw [List.length_cons, h2 h], fun s' h => ?_⟩
     obtain ⟨q', h4, h5⟩ := h3 s' h; exact ⟨q', by rw [List.getElem?_cons_succ]; exact h4, h5⟩
def RowR (cs : List XCls) (b : Bs) (rs : List XCls) (i : Nat) (R : Bs) : Prop := (∃ c, rs[i]? = some c /\ climbN cs b (allL cs).length c.name = R) \/ (rs.length <= i /\ R = objN)
theorem row_end {cs : List XCls} {rs : List XCls} {b R : Bs} {i : Nat} (hi : rs.length <= i) (h : RowR cs b rs i R) : R = objN := by
 rcases h with ⟨c', hc', _⟩ | ⟨_, hR⟩
 · rw [List.getElem?_eq_none hi] at hc'; cases hc'
 · exact hR
section
variable {cs : List XCls} {up : List (List Nat)} {k : Nat} {b R : Bs} (he : errL cs = 0) (hg : growL (allL cs) (allL cs) = some up) (hk : k < (allL cs).length)
include he hg hk
theorem row_at_name {i : Nat} {c : XCls} (hc : ((Ly.rowP (allL cs) up k).map (Ly.clP (allL cs)))[i]? = some c) : (∃ z, (Ly.rowP (allL cs) up k)[i]? = some z /\ c = Ly.clP (allL cs) z /\ (allL cs)[z]? = some c) := by
 rw [List.getElem?_map, Option.map_eq_some_iff] at hc; obtain ⟨z, hz, rfl⟩ := hc; obtain ⟨h1, _⟩ := row_walk he hg i k hk z hz; exact ⟨z, hz, rfl, Ly.at_of h1⟩
theorem row_step {i : Nat} {c : XCls} (hc : ((Ly.rowP (allL cs) up k).map (Ly.clP (allL cs)))[i]? = some c) (h : RowR cs b ((Ly.rowP (allL cs) up k).map (Ly.clP (allL cs))) i R) (hn : ¬ underB cs b c.name = true) : RowR cs b ((Ly.rowP (allL cs) up k).map (Ly.clP (allL cs))) (i + 1) R := by
 obtain ⟨z, hz, hcz, hat⟩ := row_at_name he hg hk hc; have hkn : Known cs c.name := ⟨z, c, hat, rfl⟩; obtain ⟨_, h2, h3⟩ := row_walk he hg i k hk z hz; have hsq := superQ_at he hat
 rcases h with ⟨c', hc', hR⟩ | ⟨hl, _⟩
 · rw [hc] at hc'; cases hc'
   cases hs : superL c with
   | none =>
     rw [hs] at hsq; rw [climb_end he hkn b hn hsq] at hR; refine .inr ⟨?_, hR.symm⟩; rw [List.length_map, h2 (by rw [<- hcz]; exact hs)]
     exact Nat.le_refl _
   | some s =>
     rw [hs] at hsq; obtain ⟨q, hq, hqn⟩ := h3 s (by rw [<- hcz]; exact hs)
     rw [climb_step he hkn b hn hsq] at hR; refine .inl ⟨_, by rw [List.getElem?_map, hq]; rfl, ?_⟩
     rw [hqn]; exact hR
 · rw [List.getElem?_eq_none hl] at hc; cases hc
theorem row_here {i : Nat} {c : XCls} (hc : ((Ly.rowP (allL cs) up k).map (Ly.clP (allL cs)))[i]? = some c) (h : RowR cs b ((Ly.rowP (allL cs) up k).map (Ly.clP (allL cs))) i R) (hy : underB cs b c.name = true) : R = c.name := by
 obtain ⟨z, hz, hcz, hat⟩ := row_at_name he hg hk hc
 rcases h with ⟨c', hc', hR⟩ | ⟨hl, _⟩
 · rw [hc] at hc'; cases hc'
   rw [<- hR]; exact climb_here he ⟨z, c, hat, rfl⟩ b hy
 · rw [List.getElem?_eq_none hl] at hc; cases hc
theorem row_first (hR : climbN cs b (allL cs).length (Ly.clP (allL cs) k).name = R) (hn : ¬ underB cs b (Ly.clP (allL cs) k).name = true) : RowR cs b ((Ly.rowP (allL cs) up k).map (Ly.clP (allL cs))) 1 R := by
 have h0 : ((Ly.rowP (allL cs) up k).map (Ly.clP (allL cs)))[0]? = some (Ly.clP (allL cs) k) := by
  rw [List.getElem?_map]; cases hs : superL (Ly.clP (allL cs) k) with
  | none => rw [Ly.row_none he hg hs]; rfl
  | some s =>
    obtain ⟨q, e1, _⟩ := Ly.super_at he hg hk hs; rw [Ly.row_some he hg hk hs e1]; rfl
 exact row_step he hg hk h0 (.inl ⟨_, h0, hR⟩) hn
end
theorem ref_kind {cs : List XCls} {k : Int} {n : Bs} (h : rightL (allL cs) k n = true) : refK k = refB k := by
 rcases right_kind h with rfl | rfl | rfl | rfl | rfl | rfl <;> rfl
theorem null_name {cs : List XCls} {n : Bs} (h : rightL (allL cs) 6 n = true) : n = [] := right_plain h rfl
end Lx
theorem put_all {W w : World} {n b : Nat} (hB : Below n W w) (hn : n <= b) (h : w.heap[b]? = some (.cells #[.int .i64 0, .string ⟨#[]⟩] 26 (0, 0))) (k : Int) (s : ByteArray) :
 w.cell? ⟨b, 0, none⟩ = some (.int .i64 0) /\ w.cell? ⟨b, 1, none⟩ = some (.string ⟨#[]⟩) /\ w.frozen? ⟨b, 0, none⟩ = false /\ w.frozen? ⟨b, 1, none⟩ = false /\ ((w.setCell ⟨b, 0, none⟩ (.int .i64 k)).setCell ⟨b, 1, none⟩ (.string s)).cell? ⟨b, 0, none⟩ = some (.int .i64 k) /\ ((w.setCell ⟨b, 0, none⟩ (.int .i64 k)).setCell ⟨b, 1, none⟩ (.string s)).cell? ⟨b, 1, none⟩ = some (.string s) /\ Below n W ((w.setCell ⟨b, 0, none⟩ (.int .i64 k)).setCell ⟨b, 1, none⟩ (.string s)) := by
 have hP := Ow.blk_put (Ow.blk_put h 0 (.int .i64 k)) 1 (.string s); exact ⟨cell_box h 0, cell_box h 1, Ow.fz_blk h 0, Ow.fz_blk h 1, cell_box hP 0, cell_box hP 1, (hB.setCell (p := ⟨b, 0, none⟩) hn _).setCell (p := ⟨b, 1, none⟩) hn _⟩
end Go.Proofs.YtbbbnciejmdpfaaGreatDoor

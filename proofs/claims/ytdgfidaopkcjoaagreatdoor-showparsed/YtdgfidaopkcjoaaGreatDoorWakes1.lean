/- Texts that stand in the program, scanned and read. -/
import Derived.Test.YtdgfidaopkcjoaaGreatDoorProgram
import Derived.Test.YtdgfidaopkcjoaaGreatDoorTabB
import Derived.Lib.SlBytesConst
namespace Go.Proofs.YtdgfidaopkcjoaaGreatDoor
open Go.RowKit
set_option linter.unusedVariables false
set_option linter.unusedSimpArgs false

theorem own_some {w : World} {base e size : Nat} {v : Value} {n : Nat} {xs : List Value} (h : w.ownsRow base e size v n xs) (hn : 0 < n) :
    ∃ g cap, v = .slice (some ⟨g, 0, none⟩) n cap ∧ base ≤ g ∧ g < w.heap.size ∧ n ≤ cap ∧ cap ≤ maxLen ∧ ∀ j u, xs[j]? = some u → w.cell? ⟨g, j, none⟩ = some u := by
  have hx := h
  rcases h.2 with ⟨_, h0⟩ | ⟨g, cap, cur, rfl, hb, hg, hnc, hcm, _, _⟩
  · omega
  · refine ⟨g, cap, rfl, hb, (Array.getElem?_eq_some_iff.1 hg).1, hnc, hcm, fun j u hj => ?_⟩
    have hl : j < xs.length := by
      rcases Nat.lt_or_ge j xs.length with h | h
      · exact h
      · rw [List.getElem?_eq_none h] at hj; cases hj
    rw [hx.cellAt j (by rw [← hx.1]; exact hl)]
    exact hj
theorem conv_same (w : World) (C : Array Value) (n c : Nat) : (convert 26 26 (.slice (some ⟨w.heap.size, 0, none⟩) n c)).run Tryz.prog (w.alloc (.cells C 5)) = .ok (.slice (some ⟨w.heap.size, 0, none⟩) n c) (w.alloc (.cells C 5 (C.size, C.size + 1))) :=
  Lib.run_convert_bytes_const w 26 5 C n c (by kernel_rfl) (by kernel_rfl)
theorem conv_same2 (w : World) (o : Obj) (C : Array Value) (n c : Nat) : (convert 26 26 (.slice (some ⟨w.heap.size + 1, 0, none⟩) n c)).run Tryz.prog ((w.alloc o).alloc (.cells C 5)) = .ok (.slice (some ⟨w.heap.size + 1, 0, none⟩) n c) ((w.alloc o).alloc (.cells C 5 (C.size, C.size + 1))) := by
  have h := conv_same (w.alloc o) C n c
  rw [show (w.alloc o).heap.size = w.heap.size + 1 from by simp] at h
  exact h
theorem cell_marked (w : World) (C : Array Value) (e : TypeId) (fz : Nat × Nat) (k : Nat) : (w.alloc (.cells C e fz)).cell? ⟨w.heap.size, k, none⟩ = C[k]? :=
  cell_of_row _ w.heap.size k C e fz (heap_alloc_new w _)
theorem scans_of (w : World) (bs : List UInt8) (g off cap : Nat) (hn : bs.length ≤ 6000) (hcap : bs.length ≤ cap) (hg : g < w.heap.size) (hc : ∀ k, k < bs.length → w.cell? ⟨g, off + k, none⟩ = some (.int .u8 ((bs.getD k 0).toNat : Int))) : Scans w (.slice (some ⟨g, off, none⟩) bs.length cap) bs :=
  fun w' hb => Scan_any bs g off cap w' hn hcap (by have := hb.size; omega) (fun k hk => (hb.cell (by exact hg)).trans (hc k hk))
def byteArr (bs : List UInt8) : Array Value := (bs.map fun u => Value.int .u8 (u.toNat : Int)).toArray
theorem scans_lit (w : World) (bs : List UInt8) (fz : Nat × Nat) (hn : bs.length ≤ 6000) : Scans (w.alloc (.cells (byteArr bs) 5 fz)) (.slice (some ⟨w.heap.size, 0, none⟩) bs.length bs.length) bs :=
  scans_of _ bs w.heap.size 0 bs.length hn (Nat.le_refl _) (by simp) (fun k hk => by rw [cell_marked, Nat.zero_add]; simp [byteArr, List.getD, hk])
theorem Program_lit (w : World) (bs : List UInt8) (fz : Nat × Nat) (hn : bs.length ≤ 6000) (ht : TabS w) :
    Calls Tryz.prog 8 #[.slice (some ⟨w.heap.size, 0, none⟩) bs.length bs.length] (w.alloc (.cells (byteArr bs) 5 fz)) fun e w' => ∃ v, e = .returned (.tuple #[.agg #[v], .int .i64 ((Pp.program bs).2.1 : Int), .int .i64 (Pp.program bs).2.2]) ∧ ProgIs w' w.heap.size (Pp.program bs).1 v ∧ Below w.heap.size w w' := by
  have hb : Below w.heap.size w (w.alloc (.cells (byteArr bs) 5 fz)) := (Below.refl _ _).alloc (Nat.le_refl _) _
  refine (Program_any (scans_lit w bs fz hn) rfl (by unfold maxLen; omega) (ht.fr (S := []) (Fr.ofBelow hb) (fun x hx => by cases hx))).mono fun e w' ⟨v, h1, h2, h3⟩ => ⟨v, h1, h2.base (by simp), hb.trans (h3.mono (by simp))⟩

end Go.Proofs.YtdgfidaopkcjoaaGreatDoor

/- What show.Type answers. -/
import Derived.Test.YtdgfidaopkcjoabDoorShowS
import Derived.Test.YtdgfidaopkcjoabDoorShelfJ
namespace Go.Proofs.YtdgfidaopkcjoabDoor
open Go.RowKit
set_option linter.unusedVariables false
set_option linter.unusedSimpArgs false

namespace Pp
/-- A type's words without blanks; of what is none, none. -/
def typeT (t : Ty) : Bs := if typeB t = true then ((tyW t).map wtx).flatten else []
end Pp
namespace Sh
theorem join_nil (xs : List (List UInt8)) : Lib.join xs [] = xs.flatten := by
  unfold Lib.join
  rw [List.intercalate]
  induction xs with
  | nil => rfl
  | cons x r ih =>
    cases r with
    | nil => simp
    | cons y r => simp at ih ⊢; exact ih
theorem tyS_short {t : Pp.Ty} (h : Pp.okTy t) : (Sh.tyS t).flatten.length ≤ 100 := by
  have h1 := Pp.gw_ty h
  unfold tyS
  have key : ∀ ws : List Pp.Wd, (∀ w ∈ ws, Pp.GW w) → (ws.map Pp.wtx).flatten.length ≤ 21 * ws.length := by
    intro ws
    induction ws with
    | nil => simp
    | cons w r ih =>
      intro h
      have a1 := Lx.wordA_len _ _ (h w (by simp))
      have a2 := ih fun x hx => h x (by simp [hx])
      simp only [List.map_cons, List.flatten_cons, List.length_append, List.length_cons]
      omega
  have := key _ h1.1
  have := h1.2
  omega
end Sh

set_option maxRecDepth 100000 in
set_option maxHeartbeats 2000000 in
theorem Type_any (t : Pp.Ty) (hs : t.name.length ≤ maxLen) (w : World) (ht : TabS w) :
    Calls Tryd.prog 15 #[.agg #[.int .i64 t.kind, .string ⟨t.name.toArray⟩]] w fun e w' => e = .returned (.tuple #[.string ⟨(Pp.typeT t).toArray⟩, .int .i64 (if Pp.typeB t = true then 0 else 4)]) ∧ Below w.heap.size w w' := by
  have hT := hide (fun w' (hb : Below w.heap.size w w') => isType_any t hs w' (ht.below hb))
  clear ht
  cases hb : Pp.typeB t with
  | false =>
    rw [hb] at hT
    have hR : Hid (Pp.typeT t = []) := hide (by unfold Pp.typeT; rw [hb]; rfl)
    rw [hR.out]
    obtain ⟨k, n⟩ := t
    simp only at hT ⊢
    generalize (⟨n.toArray⟩ : ByteArray) = S at *
    clear hb
    go_enter Tryd.func15, Tryd.ntmps15
    go_wp2_with fail
    refine (hT.out _ ((Below.refl _ _).alloc (Nat.le_refl _) _)).mono ?_
    rintro e w1 ⟨rfl, hb1⟩
    obtain ⟨B1, HB, hsz⟩ := box_one hb1
    have HB := hide HB
    clear B1 hb1 hT
    go_wp2_with fail
    go_ret2
    exact ⟨rfl, HB.out⟩
  | true =>
    rw [hb] at hT
    have hok := (Pp.typeB_iff t).1 hb
    have hR : Hid (Pp.typeT t = (Sh.tyS t).flatten) := hide (by unfold Pp.typeT; rw [hb]; rfl)
    have hW := hide (fun w => typeWords_any t hok w)
    have hTl := tyS_len t
    have hsh := hide (Sh.tyS_short hok)
    rw [hR.out]
    have hJ : Hid (∀ (g : Nat) (w' : World), w'.heap[g]? = some (.cells (Sh.strsA (Sh.tyS t)) 9 (0, 0)) → Calls Tryd.prog 25 #[.slice (some ⟨g, 0, none⟩) (Sh.tyS t).length (Sh.tyS t).length, .string ⟨#[]⟩] w' fun e w'' => e = .returned (.string ⟨((Sh.tyS t).flatten).toArray⟩) ∧ Below w'.heap.size w' w'') := hide fun g w' hg => by
      have hd : ((Sh.tyS t).map fun s => (⟨s.toArray⟩ : ByteArray)).map (fun x => x.data.toList) = Sh.tyS t := by
        rw [List.map_map]; exact (List.map_congr_left (fun _ _ => rfl)).trans (List.map_id _)
      have h := Tryd.strings_Join g 0 (Sh.tyS t).length ((Sh.tyS t).map fun s => ⟨s.toArray⟩) ⟨#[]⟩ w' (fun j x hx => ?_) (Sh.lt_of_blk hg) (by simp; omega) (by simp) (by rw [hd, Sh.join_nil]; have := hsh.out; omega)
      · rw [hd, Sh.join_nil, List.length_map] at h
        exact h
      · rw [cell_box hg, Nat.zero_add, Sh.strsA]
        simp at hx ⊢
        obtain ⟨s, h1, h2⟩ := hx
        exact ⟨s, h1, by rw [h2]⟩
    generalize Sh.tyS t = ts at *
    obtain ⟨k, n⟩ := t
    simp only at hT hW ⊢
    generalize (⟨n.toArray⟩ : ByteArray) = S at *
    clear hb hok
    go_enter Tryd.func15, Tryd.ntmps15
    go_wp2_with fail
    refine (hT.out _ ((Below.refl _ _).alloc (Nat.le_refl _) _)).mono ?_
    rintro e w1 ⟨rfl, hb1⟩
    obtain ⟨B1, HB, hsz⟩ := box_one hb1
    have p0 : w1.cell? ⟨w.heap.size, 0, none⟩ = some (.int .i64 k) := B1 0
    have p1 : w1.cell? ⟨w.heap.size, 1, none⟩ = some (.string S) := B1 1
    have HB := hide HB
    clear B1 hb1 hT
    go_wp2_with fail
    refine (hW.out _).mono ?_
    rintro e w2 ⟨g, rfl, hg, hb2⟩
    have HB2 := hide (HB.out.trans (hb2.mono HB.out.size))
    have HJ := hide (hJ.out g w2 hg)
    clear hb2 hg hW p0 p1 hJ HB
    go_wp2_with fail
    refine HJ.out.mono ?_
    rintro e w3 ⟨rfl, hb3⟩
    have HB3 := hide (HB2.out.trans (hb3.mono HB2.out.size))
    clear hb3 HJ HB2
    go_wp2_with fail
    go_ret2
    exact ⟨rfl, HB3.out⟩

end Go.Proofs.YtdgfidaopkcjoabDoor

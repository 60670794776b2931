/- ShowExact: what Text answers, and its bytes as a string. -/
import Derived.Test.YtdgfidaopkcjoaaDoorKeepS
import Derived.Test.YtdgfidaopkcjoaaDoorMgE
import Derived.Test.YtdgfidaopkcjoaaDoorHeavyX
import Derived.Test.YtdgfidaopkcjoaaDoorTwinD
import Derived.Test.YtdgfidaopkcjoaaDoorEqD
import Derived.Test.YtdgfidaopkcjoaaDoorTxtA
import Derived.Test.YtdgfidaopkcjoaaDoorShownD
namespace Go.Proofs.YtdgfidaopkcjoaaDoor
open Go.RowKit
set_option linter.unusedVariables false
set_option linter.unusedSimpArgs false

def errT (cs : List Pp.XCls) : Int := if Pp.progB cs = true then (if (Pp.textX cs).length ≤ 6000 then 0 else 2) else 4
theorem errT_ok {cs : List Pp.XCls} (h : errT cs = 0) : Pp.progB cs = true ∧ (Pp.textX cs).length ≤ 6000 := by
  unfold errT at h
  split at h
  · split at h
    · exact ⟨by assumption, by assumption⟩
    · cases h
  · cases h
theorem errT_is {cs : List Pp.XCls} (h1 : Pp.progB cs = true) (h2 : (Pp.textX cs).length ≤ 6000) : errT cs = 0 := by unfold errT; rw [if_pos h1, if_pos h2]
theorem errT_long {cs : List Pp.XCls} (h1 : Pp.progB cs = true) (h2 : ¬ (Pp.textX cs).length ≤ 6000) : errT cs = 2 := by unfold errT; rw [if_pos h1, if_neg h2]
theorem errT_none {cs : List Pp.XCls} (h1 : Pp.progB cs = false) : errT cs = 4 := by unfold errT; rw [h1]; rfl
theorem Text_no {cs : List Pp.XCls} {v : Value} {B : Nat} {w : World} (ht : Sh.Tabs B w) (hB : B ≤ w.heap.size) (he : errT cs ≠ 0) (h : ProgX w v cs) :
    Calls Tryd.prog 9 #[.agg #[v]] w fun e w' => e = .returned (.tuple #[.slice none 0 0, .int .i64 (errT cs)]) ∧ Below w.heap.size w w' := by
  have hg := ht.hB
  refine (Text_any cs v w ht.ws ht.pw ⟨by omega, by omega, by omega⟩ h).mono ?_
  rintro e w' ⟨⟨rv, rfl, hr⟩, hb⟩
  have hn : ¬ (Pp.progB cs = true ∧ (Pp.textX cs).length ≤ 6000) := fun hx => he (errT_is hx.1 hx.2)
  rw [if_neg hn] at hr
  subst hr
  exact ⟨rfl, hb⟩
theorem conv_none (w : World) : (convert 29 9 (.slice none 0 0)).run Tryd.prog w = .ok (.string ⟨#[]⟩) w :=
  run_convert_bytes_nil w 29 5 (by kernel_rfl) (by kernel_rfl) 0 0 9 (by kernel_rfl)
set_option maxRecDepth 100000 in
/-- A row of bytes of a call's own, as a string, in every world behind it. -/
theorem conv_own {base : Nat} {w : World} {a : Option Addr} {cap : Nat} {l : List UInt8} (h : w.ownsRow base 5 1 (.slice a l.length cap) l.length (l.map Sh.byV)) (wx : World) (hb : Below w.heap.size w wx) :
    (convert 29 9 (.slice a l.length cap)).run Tryd.prog wx = .ok (.string ⟨l.toArray⟩) wx := by
  rcases h.2 with ⟨e0, e⟩ | ⟨g, cp, cur, e0, _, hg, _⟩
  · have hl : l = [] := List.length_eq_zero_iff.1 e
    subst hl
    injection e0 with e1 e2 e3
    subst e1 e3
    exact conv_none wx
  · injection e0 with e1 e2 e3
    subst e1
    have hr := own_rowAt h
    have hc : ∀ k, k < l.length → wx.cell? ⟨g, 0 + k, none⟩ = some (.int .u8 ((l.getD k 0).toNat : Int)) := by
      intro k hk
      rcases hr with hr | ⟨b, off, e4, hlt, hc⟩
      · rw [hr] at hk; simp at hk
      · injection e4 with e5
        injection e5 with e6 e7
        subst e6 e7
        exact (hb.cell (by exact hlt)).trans (hc k hk)
    have := conv_bytes l wx g 0 cap hc 0 l.length cap (by omega)
    rw [List.drop_zero, List.take_length] at this
    exact this
theorem Text_ok {cs : List Pp.XCls} {v : Value} {B : Nat} {w : World} (ht : Sh.Tabs B w) (hB : B ≤ w.heap.size) (he : errT cs = 0) (h : ProgX w v cs) :
    Calls Tryd.prog 9 #[.agg #[v]] w fun e w' => ∃ a c, e = .returned (.tuple #[.slice a (Pp.textX cs).length c, .int .i64 0]) ∧ (∀ wx, Below w'.heap.size w' wx → (convert 29 9 (.slice a (Pp.textX cs).length c)).run Tryd.prog wx = .ok (.string ⟨(Pp.textX cs).toArray⟩) wx) ∧ Below w.heap.size w w' := by
  have hg := ht.hB
  refine (Text_any cs v w ht.ws ht.pw ⟨by omega, by omega, by omega⟩ h).mono ?_
  rintro e w' ⟨⟨rv, rfl, hr⟩, hb⟩
  obtain ⟨h1, h2⟩ := errT_ok he
  rw [if_pos ⟨h1, h2⟩] at hr
  obtain ⟨a, c, rfl⟩ := Sh.own_shape hr
  refine ⟨a, c, ?_, fun wx hx => conv_own hr wx hx, hb⟩
  rw [if_pos h1, if_pos h2]

end Go.Proofs.YtdgfidaopkcjoaaDoor

/- ShowBack's walk: what is shown is parsed again. -/
import Derived.Test.YtdgfidaopkcjoaaGreatDoorMgD
namespace Go.Proofs.YtdgfidaopkcjoaaGreatDoor
open Go.RowKit
set_option linter.unusedVariables false
set_option linter.unusedSimpArgs false

set_option maxRecDepth 100000 in
set_option maxHeartbeats 8000000 in
theorem back_walk (v1 : Value) (ps : List Pp.XCls) (w : World) (ht : TabS w) (hp : Tab w) (hg : 3 < w.heap.size ∧ 1 < w.heap.size ∧ 0 < w.heap.size) (h1 : ProgX w v1 ps) :
    Calls Tryz.prog 3 #[.agg #[v1]] w fun e w' => e = .returned (.bool true) ∧ Below w.heap.size w w' := by
  have HT : Hid (Sh.Tabs w.heap.size w) := hide ⟨ht, hp, hg⟩
  clear ht hp hg
  have hV := hide (fun w' (hb : Below w.heap.size w w') => Heavy_any ps v1 w' (h1.on hb))
  have hNo := hide (fun (he : errT ps ≠ 0) w' (hb : Below w.heap.size w w') => Text_no (HT.out.on hb) hb.size he (h1.on hb))
  have hOk := hide (fun (he : errT ps = 0) w' (hb : Below w.heap.size w w') => Text_ok (HT.out.on hb) hb.size he (h1.on hb))
  have hWk : Hid (∀ w', Below w.heap.size w w' → Calls Tryz.prog 7 #[] w' fun e w'' => e = .returned (.bool true) ∧ Below w'.heap.size w' w'') := hide fun w' hb => by
    have ht := HT.out.on hb
    exact wakes_anyS w' ht.ws ht.pw (by have := ht.hB; have := hb.size; omega)
  have HX := hide h1
  obtain ⟨a1, c1, rfl, _⟩ := h1.1.len
  clear h1
  generalize ps.length = n1 at *
  obtain ⟨er, her⟩ : ∃ q, q = errT ps := ⟨_, rfl⟩
  rw [← her] at hNo hOk
  have HER := hide her
  clear her
  go_enter Tryz.func3, Tryz.ntmps3
  go_wp2_with fail
  refine (hV.out _ ((Below.refl _ _).alloc (Nat.le_refl _) _)).mono ?_
  rintro e w1 ⟨⟨b, rfl, hl1⟩, hb1⟩
  obtain ⟨B1, hB, hz1⟩ := box_one hb1
  have p1 : w1.cell? ⟨w.heap.size, 0, none⟩ = some (.slice a1 n1 c1) := B1 0
  have HB1 := hide hB
  clear B1 hb1 hB hV hl1
  cases b with
  | true =>
    go_wp2_with fail
    go_ret
    exact ⟨rfl, HB1.out⟩
  | false =>
    by_cases he : er = 0
    · subst he
      have he0 : errT ps = 0 := HER.out.symm
      obtain ⟨hPX, hok⟩ := shown_P he0 HX.out
      have hlen := (errT_ok he0).2
      have hT := hide (hOk.out rfl _ HB1.out)
      have hPB := hide (fun (a : Option Addr) (c : Nat) w' (hb : Below w.heap.size w w') (hr : RowB w' a (Pp.textX ps).length c (Pp.textX ps)) => Program_back (HT.out.on hb).ws he0 hr)
      have hT2 := hide (fun (v : Value) w' (hb : Below w.heap.size w w') (hq : ProgP w' v (ps.map Pp.XCls.toP)) => Text_ok (HT.out.on hb) hb.size (again he0).1 (progX_of hok hq))
      rw [(again he0).2] at hT2
      have hSm := hide (fun (v : Value) w' (hb : Below w.heap.size w w') (hq : ProgP w' v (ps.map Pp.XCls.toP)) => Program_same (ps.map Pp.XCls.toP) (.slice a1 n1 c1) v w' (short_of_ok hok) (hPX.on hb) hq)
      clear hNo hOk hPX hok he0 HER HX
      generalize Pp.textX ps = tx at *
      generalize ps.map Pp.XCls.toP = qs at *
      go_wp2_with fail
      refine hT.out.mono ?_
      rintro e w2 ⟨ra, rc, rfl, hr2, hrow2, hb2⟩
      have p2 := (hb2.cell (p := ⟨w.heap.size, 0, none⟩) (by exact hz1)).trans p1
      have hz2 := Nat.lt_of_lt_of_le hz1 hb2.size
      have HB2 := hide (HB1.out.trans (hb2.mono HB1.out.size))
      have HP2 := hide (hPB.out ra rc w2 HB2.out hr2)
      have HR2 := hide hrow2
      clear hb2 hT p1 hz1 HB1 hr2 hrow2 hPB
      have HLx := hide hlen
      obtain ⟨ln, hln⟩ : ∃ q, q = tx.length := ⟨_, rfl⟩
      have HLn := hide hln
      rw [← hln] at hlen HP2 ⊢
      clear hln
      go_wp2_with fail
      refine HP2.out.mono ?_
      rintro e w3 ⟨v3, rfl, hq3, hb3⟩
      obtain ⟨a3, c3, rfl, _⟩ := RowP.len hq3
      have p3 := (hb3.cell (p := ⟨w.heap.size, 0, none⟩) (by exact hz2)).trans p2
      have hz3 := Nat.lt_of_lt_of_le hz2 hb3.size
      have HR3 := hide (HR2.out.on hb3)
      have HB3 := hide (HB2.out.trans (hb3.mono HB2.out.size))
      have HQ3 := hide hq3
      clear hb3 HP2 p2 hz2 HB2 HR2 hq3
      generalize qs.length = n3 at *
      have hA : Below w3.heap.size w3 (w3.alloc (.cells #[.slice a3 n3 c3] 24)) := (Below.refl _ _).alloc (Nat.le_refl _) _
      have p4 := (hA.cell (p := ⟨w.heap.size, 0, none⟩) (by exact hz3)).trans p3
      have q4 : (w3.alloc (.cells #[.slice a3 n3 c3] 24)).cell? ⟨w3.heap.size, 0, none⟩ = some (.slice a3 n3 c3) := cell_box (heap_alloc_new w3 _) 0
      have HR4 := hide (HR3.out.on hA)
      have HQ4 := hide (ProgP.on HQ3.out hA)
      have HB4 := hide (HB3.out.trans (hA.mono HB3.out.size))
      have hz4 := Nat.lt_of_lt_of_le hz3 hA.size
      have hy4 : w3.heap.size < (w3.alloc (.cells #[.slice a3 n3 c3] 24)).heap.size := by simp
      clear hA p3 hz3 HB3 HQ3 HR3
      go_wp2_with fail
      refine (hT2.out _ _ HB4.out HQ4.out).mono ?_
      rintro e w5 ⟨sa, sc, rfl, hr5, hrow5, hb5⟩
      have p5 := (hb5.cell (p := ⟨w.heap.size, 0, none⟩) (by exact hz4)).trans p4
      have q5 := (hb5.cell (p := ⟨w3.heap.size, 0, none⟩) (by exact hy4)).trans q4
      have HR5 := hide (HR4.out.on hb5)
      have HS5 := hide hrow5
      have HQ5 := hide (ProgP.on HQ4.out hb5)
      have HB5 := hide (HB4.out.trans (hb5.mono HB4.out.size))
      rw [← HLn.out]
      clear hb5 hr5 hrow5 p4 q4 hz4 hy4 HB4 HQ4 HR4 hT2
      go_wp2_with fail
      refine (hSm.out _ _ HB5.out HQ5.out).mono ?_
      rintro e w6 ⟨rfl, hb6⟩
      have HBy := hide (Bytes_same tx ra sa rc sc w6 (by have := HLx.out; omega) (HR5.out.on hb6) (HS5.out.on hb6))
      rw [← HLn.out] at HBy
      have HB6 := hide (HB5.out.trans (hb6.mono HB5.out.size))
      clear hb6 hSm
      go_wp2_with fail
      refine HBy.out.mono ?_
      rintro e w7 ⟨rfl, hb7⟩
      have HB7 := hide (HB6.out.trans (hb7.mono HB6.out.size))
      clear hb7 HBy
      go_wp2_with fail
      refine (hWk.out _ HB7.out).mono ?_
      rintro e w8 ⟨rfl, hb8⟩
      go_wp2_with fail
      go_ret
      exact ⟨rfl, HB7.out.trans (hb8.mono HB7.out.size)⟩
    · have hT := hide (hNo.out he _ HB1.out)
      have g1 : (er != 0) = true := by simpa using he
      clear hNo hOk
      go_wp2_with fail
      refine hT.out.mono ?_
      rintro e w2 ⟨rfl, hb2⟩
      have HB2 := hide (HB1.out.trans (hb2.mono HB1.out.size))
      clear hb2 hT
      go_wp2_with fail
      refine (hWk.out _ HB2.out).mono ?_
      rintro e w3 ⟨rfl, hb3⟩
      go_wp2_with fail
      go_ret
      exact ⟨rfl, HB2.out.trans (hb3.mono HB2.out.size)⟩

end Go.Proofs.YtdgfidaopkcjoaaGreatDoor

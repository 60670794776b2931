/- ShowParsed's walk: what is parsed can be shown, and is parsed again. -/
import Derived.Test.YtdgfidaopkcjoaaGreatDoorMgD
namespace Go.Proofs.YtdgfidaopkcjoaaGreatDoor
open Go.RowKit
set_option linter.unusedVariables false
set_option linter.unusedSimpArgs false

set_option maxHeartbeats 1000000 in
theorem parsed_long (a : Option Addr) (n c : Nat) (hm : n ≤ maxLen) (h : 7000 < n) (w : World) :
    Calls Tryz.prog 4 #[.slice a n c] w fun e w' => e = .returned (.bool true) ∧ Below w.heap.size w w' := by
  unfold maxLen at hm
  go_enter Tryz.func4, Tryz.ntmps4
  go_wp2_with fail
  go_ret
  exact ⟨rfl, Below.refl _ _⟩

set_option maxRecDepth 100000 in
set_option maxHeartbeats 8000000 in
theorem parsed_walk (a : Option Addr) (n c : Nat) (bs : List UInt8) (w : World) (hr : RowB w a n c bs) (hn : n ≤ 7000) (ht : TabS w) (hp : Tab w) (hg : 3 < w.heap.size ∧ 1 < w.heap.size ∧ 0 < w.heap.size) :
    Calls Tryz.prog 4 #[.slice a n c] w fun e w' => e = .returned (.bool true) ∧ Below w.heap.size w w' := by
  have hmx : n ≤ maxLen := by unfold maxLen; omega
  have HT : Hid (Sh.Tabs w.heap.size w) := hide ⟨ht, hp, hg⟩
  have hP := hide (Program_row hr hmx ht)
  clear ht hp hg hr
  have hWk : Hid (∀ w', Below w.heap.size w w' → Calls Tryz.prog 7 #[] w' fun e w'' => e = .returned (.bool true) ∧ Below w'.heap.size w' w'') := hide fun w' hb => by
    have ht := HT.out.on hb
    exact wakes_anyS w' ht.ws ht.pw (by have := ht.hB; have := hb.size; omega)
  have hok := Pp.program_ok bs
  obtain ⟨cs, hcs⟩ : ∃ cs, (Pp.program bs).1 = cs := ⟨_, rfl⟩
  obtain ⟨er, her⟩ : ∃ er, (Pp.program bs).2.2 = er := ⟨_, rfl⟩
  rw [hcs] at hP hok
  rw [her] at hP
  clear hcs her
  generalize (Pp.program bs).2.1 = pl at hP
  have HOK := hide hok
  clear hok
  go_enter Tryz.func4, Tryz.ntmps4
  go_wp2_with fail
  refine hP.out.mono ?_
  clear hP
  rintro e w1 ⟨v1, rfl, hp1, hb1⟩
  obtain ⟨a1, c1, rfl, _⟩ := RowP.len hp1
  have HP1 := hide hp1
  obtain ⟨n1, hn1⟩ : ∃ q, q = cs.length := ⟨_, rfl⟩
  rw [← hn1] at HP1 ⊢
  clear hn1 hp1
  have hA : Below w1.heap.size w1 (w1.alloc (.cells #[.slice a1 n1 c1] 24)) := (Below.refl _ _).alloc (Nat.le_refl _) _
  have p2 : (w1.alloc (.cells #[.slice a1 n1 c1] 24)).cell? ⟨w1.heap.size, 0, none⟩ = some (.slice a1 n1 c1) := cell_box (heap_alloc_new w1 _) 0
  have hz2 : w1.heap.size < (w1.alloc (.cells #[.slice a1 n1 c1] 24)).heap.size := by simp
  have HP2 := hide (ProgP.on HP1.out hA)
  have HB2 := hide (hb1.trans (hA.mono hb1.size))
  clear hb1 hA HP1
  by_cases he : er = 0
  · subst he
    have hk := Pp.progB_of HOK.out
    have HX2 := hide (progX_of HOK.out HP2.out)
    have hC := hide (fun w' (hb : Below (w1.alloc (.cells #[.slice a1 n1 c1] 24)).heap.size (w1.alloc (.cells #[.slice a1 n1 c1] 24)) w') => Check_any (cs.map Pp.clsX) (.slice a1 n1 c1) w' (HT.out.on (HB2.out.trans (hb.mono HB2.out.size))).ws (HX2.out.on hb))
    rw [hk, if_pos rfl] at hC
    by_cases h6 : (Pp.textX (cs.map Pp.clsX)).length ≤ 6000
    · have he0 := errT_is hk h6
      have hT := hide (Text_ok (HT.out.on HB2.out) HB2.out.size he0 HX2.out)
      have hPB := hide (fun (a : Option Addr) (c : Nat) w' (hb : Below w.heap.size w w') (hr : RowB w' a (Pp.textX (cs.map Pp.clsX)).length c (Pp.textX (cs.map Pp.clsX))) => Program_back (HT.out.on hb).ws he0 hr)
      rw [Pp.toP_prog] at hPB
      clear he0 hk
      generalize Pp.textX (cs.map Pp.clsX) = tx at *
      go_wp2_with fail
      refine hT.out.mono ?_
      rintro e w3 ⟨ra, rc, rfl, hr3, hrow3, hb3⟩
      have p3 := (hb3.cell (p := ⟨w1.heap.size, 0, none⟩) (by exact hz2)).trans p2
      have HB3 := hide (HB2.out.trans (hb3.mono HB2.out.size))
      have HR3 := hide hr3
      have hz3 := Nat.lt_of_lt_of_le hz2 hb3.size
      have HP3 := hide (ProgP.on HP2.out hb3)
      have HC3 := hide (hC.out _ hb3)
      clear hT hr3 hrow3 hb3 p2 hz2 HB2 HX2 HP2 hC
      obtain ⟨ln, hln⟩ : ∃ q, q = tx.length := ⟨_, rfl⟩
      rw [← hln] at h6 HR3 ⊢
      have hPB2 := hide (fun w' (hb : Below w.heap.size w w') (hr : RowB w' ra ln rc tx) => by have := hPB.out ra rc w' hb (by rw [← hln]; exact hr); rw [← hln] at this; exact this)
      clear hln hPB
      go_wp2_with fail
      refine HC3.out.mono ?_
      rintro e w4 ⟨rfl, hb4⟩
      have p4 := (hb4.cell (p := ⟨w1.heap.size, 0, none⟩) (by exact hz3)).trans p3
      have HB4 := hide (HB3.out.trans (hb4.mono HB3.out.size))
      have hz4 := Nat.lt_of_lt_of_le hz3 hb4.size
      have HP4 := hide (ProgP.on HP3.out hb4)
      have HQ4 := hide (hPB2.out w4 HB4.out (HR3.out.on hb4))
      clear hb4 p3 HB3 hz3 HP3 HC3 HR3 hPB2
      go_wp2_with fail
      refine HQ4.out.mono ?_
      rintro e w5 ⟨v5, rfl, hq5, hb5⟩
      obtain ⟨a5, c5, rfl, _⟩ := RowP.len hq5
      have p5 := (hb5.cell (p := ⟨w1.heap.size, 0, none⟩) (by exact hz4)).trans p4
      have HB5 := hide (HB4.out.trans (hb5.mono HB4.out.size))
      have hz5 := Nat.lt_of_lt_of_le hz4 hb5.size
      have HP5 := hide (ProgP.on HP4.out hb5)
      have HQ5 := hide hq5
      obtain ⟨n5, hn5⟩ : ∃ q, q = cs.length := ⟨_, rfl⟩
      rw [← hn5] at HQ5 ⊢
      clear hb5 hq5 p4 HB4 hz4 HP4 HQ4 hn5
      have hA : Below w5.heap.size w5 (w5.alloc (.cells #[.slice a5 n5 c5] 24)) := (Below.refl _ _).alloc (Nat.le_refl _) _
      have p6 := (hA.cell (p := ⟨w1.heap.size, 0, none⟩) (by exact hz5)).trans p5
      have q6 : (w5.alloc (.cells #[.slice a5 n5 c5] 24)).cell? ⟨w5.heap.size, 0, none⟩ = some (.slice a5 n5 c5) := cell_box (heap_alloc_new w5 _) 0
      have HB6 := hide (HB5.out.trans (hA.mono HB5.out.size))
      have hS := hide (Program_same cs _ _ (w5.alloc (.cells #[.slice a5 n5 c5] 24)) (short_of_ok HOK.out) (ProgP.on HP5.out hA) (ProgP.on HQ5.out hA))
      clear hA p5 HB5 hz5 HP5 HQ5
      go_wp2_with fail
      refine hS.out.mono ?_
      rintro e w7 ⟨rfl, hb7⟩
      have HB7 := hide (HB6.out.trans (hb7.mono HB6.out.size))
      clear hb7 hS
      go_wp2_with fail
      refine (hWk.out _ HB7.out).mono ?_
      rintro e w8 ⟨rfl, hb8⟩
      go_wp2_with fail
      go_ret
      exact ⟨rfl, HB7.out.trans (hb8.mono HB7.out.size)⟩
    · have he2 := errT_long hk h6
      have hT := hide (Text_no (HT.out.on HB2.out) HB2.out.size (by rw [he2]; decide) HX2.out)
      rw [he2] at hT
      clear he2 hk h6
      go_wp2_with fail
      refine hT.out.mono ?_
      rintro e w3 ⟨rfl, hb3⟩
      have p3 := (hb3.cell (p := ⟨w1.heap.size, 0, none⟩) (by exact hz2)).trans p2
      have HB3 := hide (HB2.out.trans (hb3.mono HB2.out.size))
      have HC3 := hide (hC.out _ hb3)
      clear hT hb3 p2 hz2 HB2 HX2 HP2 hC
      go_wp2_with fail
      refine HC3.out.mono ?_
      rintro e w4 ⟨rfl, hb4⟩
      have HB4 := hide (HB3.out.trans (hb4.mono HB3.out.size))
      clear hb4 HC3 HB3
      go_wp2_with fail
      refine (hWk.out _ HB4.out).mono ?_
      rintro e w5 ⟨rfl, hb5⟩
      go_wp2_with fail
      go_ret
      exact ⟨rfl, HB4.out.trans (hb5.mono HB4.out.size)⟩
  · have g1 : (er != 0) = true := by simpa using he
    go_wp2_with fail
    refine (hWk.out _ HB2.out).mono ?_
    rintro e w5 ⟨rfl, hb5⟩
    go_wp2_with fail
    go_ret
    exact ⟨rfl, HB2.out.trans (hb5.mono HB2.out.size)⟩

end Go.Proofs.YtdgfidaopkcjoaaGreatDoor

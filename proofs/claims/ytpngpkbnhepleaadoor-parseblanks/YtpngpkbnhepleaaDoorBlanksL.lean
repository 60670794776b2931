/- ParseBlanks: the walk: the words alone tell the program. -/
import Derived.Test.YtpngpkbnhepleaaDoorRowB
namespace Go.Proofs.YtpngpkbnhepleaaDoor
open Go.RowKit
set_option linter.unusedVariables false
set_option linter.unusedSimpArgs false

set_option maxHeartbeats 1000000 in
theorem pblanks_long (a : Option Addr) (n c : Nat) (hm : n ≤ maxLen) (h : 7000 < n) (w : World) :
    Calls Tryd.prog 4 #[.slice a n c] w fun e w' => e = .returned (.bool true) ∧ Below w.heap.size w w' := by
  unfold maxLen at hm
  go_enter Tryd.func4, Tryd.ntmps4
  go_wp2_with fail
  go_ret
  exact ⟨rfl, Below.refl _ _⟩

set_option maxRecDepth 100000 in
set_option maxHeartbeats 8000000 in
theorem pblanks_walk (a : Option Addr) (n c : Nat) (bs : List UInt8) (w : World) (hr : RowB w a n c bs) (hn : n ≤ 7000) (ht : TabS w) (htab : Tab w) :
    Calls Tryd.prog 4 #[.slice a n c] w fun e w' => e = .returned (.bool true) ∧ Below w.heap.size w w' := by
  have hmx : n ≤ maxLen := by unfold maxLen; omega
  have hS := hide (scans_row hr hmx w (Below.refl _ _))
  have HT := hide ht
  have HTB := hide htab
  have HR := hide hr
  clear hr ht htab
  have hfacts := Lx.scanL_facts bs
  have HV := hide (Lx.scanL_valid bs)
  obtain ⟨l, p1, q1, hsc⟩ : ∃ l p q, Lx.scanL bs = (l, p, q) := ⟨_, _, _, rfl⟩
  rw [hsc] at hS hfacts HV
  simp only at hS hfacts HV
  have HSC := hide hsc
  have HF := hide hfacts
  clear hsc hfacts
  by_cases hq : q1 = 0
  · subst hq
    obtain rfl : p1 = 0 := HF.out.2.1 rfl
    obtain ⟨jb, hjb⟩ := Lx.joinL_scan l HV.out
    have HJ := hide hjb
    clear hjb
    have hS2 : Hid (Calls Tryd.prog 21 #[.slice a n c] w fun e w' => ∃ vw, e = .returned (.tuple #[vw, .int .i64 0, .int .i64 0]) ∧ w'.ownsRow w.heap.size 77 4 vw l.length (toksCells l) ∧ Below w.heap.size w w') := hS
    clear hS
    go_enter Tryd.func4, Tryd.ntmps4
    go_wp2_with fail
    refine hS2.out.mono ?_
    clear hS2
    rintro e w1 ⟨vw, rfl, ho1, hb1⟩
    have hj := hide (Join_toks HV.out HF.out.1 HJ.out ho1 (HTB.out.on hb1) 0 (Nat.zero_le _))
    obtain ⟨va, vc, rfl⟩ := own_shape ho1
    have HB1 := hide hb1
    clear ho1 hb1
    go_wp2_with fail
    refine hj.out.mono ?_
    clear hj
    rintro e w2 ⟨v2, rfl, ho2, hb2⟩
    obtain ⟨a2, c2, rfl, hr2⟩ := own_rowB ho2
    have HR2 := hide hr2
    have HB2 := hide (HB1.out.trans (hb2.mono HB1.out.size))
    clear hr2 ho2 hb2 HB1
    have hjl : jb.length ≤ 132000 := by
      have h1 := Lx.joinGo_len _ _ _ _ HJ.out
      have h2 := HF.out.1
      simp at h1; omega
    by_cases h6 : 6000 < jb.length
    · go_wp2_with fail
      refine (wakes_any _ (HT.out.below HB2.out)).mono ?_
      rintro e w3 ⟨rfl, hb3⟩
      go_wp2_with fail
      go_ret
      exact ⟨rfl, HB2.out.trans (hb3.mono HB2.out.size)⟩
    · obtain ⟨l', hl', hm'⟩ := Lx.scanL_joined _ jb HJ.out (by omega)
      rw [Lx.bare_toA] at hm'
      obtain ⟨g1, g2⟩ := Pp.program_words HSC.out hl' (Lx.bare_wd hm'.symm)
      have hok := Pp.program_ok jb
      have P1 := hide (fun (w' : World) (hb : Below w2.heap.size w2 w') => Program_row (HR.out.on (HB2.out.trans (hb.mono HB2.out.size))) hmx (HT.out.below (HB2.out.trans (hb.mono HB2.out.size))))
      have P2 := hide (fun (w' : World) (hb : Below w2.heap.size w2 w') => Program_row (HR2.out.on hb) (show jb.length ≤ maxLen by unfold maxLen; omega) (HT.out.below (HB2.out.trans (hb.mono HB2.out.size))))
      rw [g1, g2] at P1
      clear g1 g2 hl' hm'
      generalize (Pp.program jb).1 = cs at *
      generalize (Pp.program jb).2.2 = er at *
      generalize (Pp.program jb).2.1 = n2 at *
      generalize (Pp.program bs).2.1 = n1 at *
      have HOK := hide (short_of_ok hok)
      clear hok
      go_wp2_with fail
      refine (P1.out _ (Below.refl _ _)).mono ?_
      clear P1
      rintro e w3 ⟨v3, rfl, hp3, hb3⟩
      obtain ⟨a3, c3, rfl, _⟩ := RowP.len hp3
      have HP3 := hide hp3
      have HB3 := hide hb3
      clear hp3 hb3
      go_wp2_with fail
      refine (P2.out _ (HB3.out.alloc HB3.out.size _)).mono ?_
      clear P2
      rintro e w4 ⟨v4, rfl, hp4, hb4⟩
      obtain ⟨a4, c4, rfl, _⟩ := RowP.len hp4
      have hsz : w3.heap.size < w4.heap.size := by have := hb4.size; simp at this; omega
      have kc : w4.cell? ⟨w3.heap.size, 0, none⟩ = some (.slice a3 cs.length c3) := by
        rw [hb4.cell (by simp)]
        exact cell_box (heap_alloc_new w3 _) 0
      have hB34 : Below w3.heap.size w3 w4 := ((Below.refl _ _).alloc (Nat.le_refl _) _).trans (hb4.mono (by simp))
      have HP4 := hide hp4
      have HP3' := hide (ProgP.on HP3.out hB34)
      have HB4 := hide (HB2.out.trans ((HB3.out.trans (hB34.mono HB3.out.size)).mono HB2.out.size))
      clear hp4 hb4 HP3 HB3 hB34
      go_wp2_with fail
      refine (Program_same cs _ _ _ HOK.out (ProgP.on HP3'.out ((Below.refl _ _).alloc (Nat.le_refl _) _)) (ProgP.on HP4.out ((Below.refl _ _).alloc (Nat.le_refl _) _))).mono ?_
      rintro e w5 ⟨rfl, hb5⟩
      have HB5 := hide ((HB4.out.alloc HB4.out.size (.cells #[.slice a4 cs.length c4] 26)).trans (hb5.mono (by have := HB4.out.size; simp; omega)))
      clear hb5 HB4 HP3' HP4 kc
      go_wp2_with fail
      refine (wakes_any _ (HT.out.below HB5.out)).mono ?_
      rintro e w6 ⟨rfl, hb6⟩
      go_wp2_with fail
      go_ret
      exact ⟨rfl, HB5.out.trans (hb6.mono HB5.out.size)⟩
  · have hq' : ((q1 : Int) != 0) = true := by simp; omega
    go_enter Tryd.func4, Tryd.ntmps4
    go_wp2_with fail
    refine hS.out.mono ?_
    clear hS
    rintro e w1 ⟨vw, rfl, ho1, hb1⟩
    obtain ⟨va, vc, rfl⟩ := own_shape ho1
    clear ho1
    go_wp2_with fail
    refine (wakes_any _ (HT.out.below hb1)).mono ?_
    rintro e w3 ⟨rfl, hb3⟩
    go_wp2_with fail
    go_ret
    exact ⟨rfl, hb1.trans (hb3.mono hb1.size)⟩

end Go.Proofs.YtpngpkbnhepleaaDoor

/- ShowParts' walk. -/
import Derived.Test.YtdgfidaopkcjoaaDoorShowU
import Derived.Test.YtdgfidaopkcjoaaDoorHeavyX
import Derived.Test.YtdgfidaopkcjoaaDoorKeepS
namespace Go.Proofs.YtdgfidaopkcjoaaDoor
open Go.RowKit
set_option linter.unusedVariables false
set_option linter.unusedSimpArgs false

namespace Sh
theorem textX_take {cs : List Pp.XCls} {k : Nat} {c : Pp.XCls} (h : cs[k]? = some c) : Pp.textX (cs.take (k + 1)) = Pp.textX (cs.take k) ++ Pp.textX [c] := by
  rw [textX_many, textX_many, textX_many, manyT_take _ h]; simp [Pp.manyW]
theorem textX_le (cs : List Pp.XCls) (k : Nat) : (Pp.textX (cs.take k)).length ≤ (Pp.textX cs).length := by
  rw [textX_many, textX_many]; exact manyT_le _ _ _
theorem textX_ne (c : Pp.XCls) : Pp.textX [c] ≠ [] := by
  intro h
  have := congrArg List.length h
  rw [textX_many] at this
  simp only [Pp.manyW, clsF, Pp.clsW, Pp.wordsT, List.append_nil, List.map_append, List.map_cons, List.map_nil, Pp.sayL_app, Pp.sayL, List.length_append, List.length_cons, List.length_nil] at this
  omega
theorem progB_one {cs : List Pp.XCls} (h : Pp.progB cs = true) {c : Pp.XCls} (hc : c ∈ cs) : Pp.progB [c] = true := by
  unfold Pp.progB at h ⊢
  rw [Pp.eachB_iff] at h ⊢
  refine ⟨by simp, fun x hx => ?_⟩
  simp at hx; subst hx
  exact h.2 _ hc
/-- One class of a program, as a program. -/
theorem prog_at {w : World} {g o n c : Nat} {cs : List Pp.XCls} (h : ProgX w (.slice (some ⟨g, o, none⟩) n c) cs) {k : Nat} {x : Pp.XCls} (hx : cs[k]? = some x) (c' : Nat) (hc' : 1 ≤ c') : ProgX w (.slice (some ⟨g, o + k * 6, none⟩) 1 c') [x] := by
  obtain ⟨⟨a, c0, e, hc, hr⟩, hl⟩ := h
  injection e with e1 e2 e3
  subst e1
  refine ⟨⟨_, c', rfl, by simpa using hc', .inr ?_⟩, by unfold maxLen; simp⟩
  rcases hr with rfl | ⟨b, o', e, hlt, hr⟩
  · simp at hx
  · injection e with e
    injection e with e1 e2
    subst e1 e2
    refine ⟨g, o + k * 6, rfl, hlt, fun j y hy => ?_⟩
    have hj : j = 0 := by
      cases j with
      | zero => rfl
      | succ j => simp at hy
    subst hj
    simp at hy
    subst hy
    obtain ⟨ys, h1, h2⟩ := hr k x hx
    exact ⟨ys, h1, fun i u hi => by rw [Nat.zero_mul, Nat.add_zero]; exact h2 i u hi⟩
end Sh

set_option maxRecDepth 100000 in
set_option maxHeartbeats 8000000 in
theorem parts_walk (v : Value) (cs : List Pp.XCls) (w : World) (ht : TabS w) (hp : Tab w) (hg : 3 < w.heap.size ∧ 2 < w.heap.size ∧ 0 < w.heap.size) (h : ProgX w v cs) :
    Calls Tryd.prog 5 #[.agg #[v]] w fun e w' => e = .returned (.bool true) ∧ Below w.heap.size w w' := by
  have HT : Hid (Sh.Tabs w.heap.size w) := hide ⟨ht, hp, hg⟩
  clear ht hp hg
  have hHv := hide (fun w' (hb : Below w.heap.size w w') => Heavy_any cs v w' (h.on hb))
  have hTx := hide (fun w' (hb : Below w.heap.size w w') => Text_any cs v w' (HT.out.on hb).ws (HT.out.on hb).pw (by have := (HT.out.on hb).hB; have := hb.size; omega) (h.on hb))
  have hWk : Hid (∀ w', Below w.heap.size w w' → Calls Tryd.prog 15 #[] w' fun e w'' => e = .returned (.bool true) ∧ Below w'.heap.size w' w'') := hide fun w' hb => by
    have ht := HT.out.on hb
    exact wakes_any w' ht.ws ht.pw (by have := ht.hB; have := hb.size; omega)
  have HX := hide h
  obtain ⟨pa, pc, rfl, hpc⟩ := h.1.len
  obtain ⟨len, hlen⟩ : ∃ len, len = cs.length := ⟨_, rfl⟩
  have HL := hide hlen
  rw [← hlen] at hHv hTx HX hpc ⊢
  clear h hlen
  go_enter Tryd.func5, Tryd.ntmps5
  go_wp2_with fail
  refine (hHv.out _ ((Below.refl _ _).alloc (Nat.le_refl _) _)).mono ?_
  rintro e w1 ⟨⟨b, rfl, hlight⟩, hb1⟩
  obtain ⟨B1, HB, hsz⟩ := box_one hb1
  have p0 : w1.cell? ⟨w.heap.size, 0, none⟩ = some (.slice pa len pc) := B1 0
  have HB1 := hide HB
  clear B1 hb1 hHv HB
  cases b with
  | true =>
    go_wp2_with fail
    go_ret
    exact ⟨rfl, HB1.out⟩
  | false =>
    have HLi := hide (hlight rfl)
    clear hlight
    go_wp2_with fail
    refine (hTx.out _ HB1.out).mono ?_
    rintro e w2 ⟨⟨rv, rfl, hrv⟩, hb2⟩
    have HB2 := hide (HB1.out.trans (hb2.mono HB1.out.size))
    have p2 := (hb2.cell (p := ⟨w.heap.size, 0, none⟩) (by exact hsz)).trans p0
    have hsz2 := Nat.lt_of_lt_of_le hsz hb2.size
    by_cases hok : Pp.progB cs = true ∧ (Pp.textX cs).length ≤ 6000
    · rw [if_pos hok] at hrv
      rw [if_pos hok.1, if_pos hok.2]
      obtain ⟨ra, rc, rfl⟩ := Sh.own_shape hrv
      have HR := hide (own_rowAt hrv)
      have HOK := hide hok
      clear hrv hb2 p0 hTx hok hsz
      obtain ⟨i0, hi, hz0, hz1, hz2⟩ := Sh.info_of Sh.u8_info
      have hlen14 : len ≤ 14 := by rw [HL.out]; exact HLi.out.1
      obtain ⟨tl, htl⟩ : ∃ tl, tl = (Pp.textX cs).length := ⟨_, rfl⟩
      have HTL := hide htl
      rw [← htl]
      clear htl
      go_wp2_with fail
      go_loopw [5, 6] (fun a i wr => ∃ (k : Nat), k ≤ len ∧ i = .int .i64 k ∧ Below w2.heap.size w2 wr ∧ wr.ownsRow w2.heap.size 5 1 a (Pp.textX (cs.take k)).length ((Pp.textX (cs.take k)).map Sh.byV)) (fun _ i _ => len - (intOf i).toNat)
      case atStart => exact ⟨0, Nat.zero_le _, rfl, Below.refl _ _, World.ownsRow_nil _ _ _ _⟩
      case round =>
        obtain ⟨k, hk, rfl, hbel, hown⟩ := hrel
        have p3 := (hbel.cell (p := ⟨w.heap.size, 0, none⟩) (by exact hsz2)).trans p2
        have HB3 := hide (HB2.out.trans (hbel.mono HB2.out.size))
        by_cases hlt : k < len
        · obtain ⟨x, hx⟩ : ∃ x, cs[k]? = some x := ⟨cs[k]'(by rw [← HL.out]; exact hlt), List.getElem?_eq_getElem _⟩
          obtain ⟨g, o, rfl⟩ : ∃ g o, pa = some ⟨g, o, none⟩ := by
            obtain ⟨b, o, e, _⟩ := Sh.row_at HX.out.1 hx
            exact ⟨b, o, e⟩
          have hpc1 : 1 ≤ pc - k := by omega
          have htk := Sh.textX_take hx
          have hle1 := Sh.textX_le cs (k + 1)
          rw [htk, List.length_append] at hle1
          have h6 := HOK.out.2
          have hTk : Hid (Calls Tryd.prog 9 #[.agg #[.slice (some ⟨g, o + k * 6, none⟩) 1 (pc - k)]] wr fun e w' => (∃ g2 c2, e = .returned (.tuple #[.slice (some ⟨g2, 0, none⟩) (Pp.textX [x]).length c2, .int .i64 0]) ∧ Lib.Bytes w' g2 0 ⟨(Pp.textX [x]).toArray⟩) ∧ Below wr.heap.size wr w') := hide (by
            have hts := HT.out.on HB3.out
            refine (Text_any [x] _ wr hts.ws hts.pw (by have := hts.hB; have := HB3.out.size; omega) (Sh.prog_at (HX.out.on HB3.out) hx (pc - k) hpc1)).mono ?_
            rintro e w' ⟨⟨rv, rfl, h1⟩, h2⟩
            have e1 := Sh.progB_one HOK.out.1 (List.mem_of_getElem? hx)
            rw [e1] at h1
            rw [if_pos ⟨rfl, by omega⟩] at h1
            obtain ⟨g2, c2, rfl, h3⟩ := Sh.bytes_of h1 (Sh.textX_ne x)
            refine ⟨⟨g2, c2, ?_, h3⟩, h2⟩
            rw [e1, if_pos rfl, if_pos (by omega)])
          have HA := hide htk
          have HBX : Hid ((Pp.textX (cs.take k)).length + (Pp.textX [x]).length ≤ 6000) := hide (by omega)
          generalize Pp.textX [x] = tx at *
          generalize Pp.textX (cs.take k) = acc at *
          clear htk hle1 h6 HX hx
          have hlt' : (k : Int) < (len : Int) := by omega
          go_wp2_with fail
          refine hTk.out.mono ?_
          rintro e w4 ⟨⟨g2, c2, rfl, hby⟩, hb4⟩
          have hown4 : w4.ownsRow w2.heap.size 5 1 _ acc.length (acc.map Sh.byV) := Sh.own_keep hown fun k c hk => (hb4.block k (Sh.lt_of_blk hk)).trans hk
          have hb24 : w2.heap.size ≤ w4.heap.size := Nat.le_trans hbel.size hb4.size
          obtain ⟨a5, c5, rfl⟩ := Sh.own_shape hown4
          have HBY : Hid (∀ j u, (tx.map Sh.byV)[j]? = some u → w4.cell? ((⟨g2, 0, none⟩ : Addr).add j) = some u) := hide (by
            intro j u hj
            have hjl : j < tx.length := by
              rcases Nat.lt_or_ge j tx.length with h | h
              · exact h
              · rw [List.getElem?_eq_none (by simpa using h)] at hj; cases hj
            rw [Go.WideShapes.add_plain]
            have h1 := hby j (by simpa [ByteArray.size] using hjl)
            rw [h1]
            simp [List.getElem?_map, hjl, Sh.byV] at hj
            rw [← hj]
            rfl)
          have HB1' : Hid (∀ u ∈ tx.map Sh.byV, u.oneCell' = true) := hide (by intro u hu; obtain ⟨y, _, rfl⟩ := List.mem_map.1 hu; rfl)
          have hb4' := hbel.trans (hb4.mono hbel.size)
          clear hTk hby hown hb4
          go_wp2_with (at_builtin; refine wpList_append_own _ rfl (.tmp 39) (.tmp 40) 29 rfl w2.heap.size 5 i0 (.int .u8 0) 1 1 Tryd.underlying29 hi hz0 hz1 hz2 rfl (by decide) _ _ _ rfl hown4 ⟨g2, 0, none⟩ tx.length c2 (tx.map Sh.byV) rfl ?d0 ?d1 ?d2 ?d3 ?d4 ?d5 ?_)
          case d0 => simp
          case d1 => exact HBY.out
          case d2 => exact HB1'.out
          case d3 => have := HBX.out; unfold maxLen; omega
          case d4 => have := HBX.out; omega
          case d5 => exact hb24
          · intro v' w5 hown5 hgrow5 _
            have hb5 := Below.grown hb4' hgrow5 hb24 (fun k hk => (hown4.lt k hk).1)
            have hO5 : w5.ownsRow w2.heap.size 5 1 v' (Pp.textX (cs.take (k + 1))).length ((Pp.textX (cs.take (k + 1))).map Sh.byV) := by
              rw [HA.out, List.length_append, List.map_append]; exact hown5
            clear hown5 hgrow5 hown4 hb4' HBY HB1' HA HBX
            go_wp2_with fail
            go_roundw
            case rel => exact ⟨k + 1, by omega, by go_num, hb5, hO5⟩
            case measure => simp [intOf]; omega
        · rw [List.take_of_length_le (by rw [← HL.out]; omega)] at hown
          obtain ⟨a5, c5, rfl⟩ := Sh.own_shape hown
          have HR5 := hide (own_rowAt hown)
          have HRb := hide (HR.out.on hbel)
          have hBy : Hid (Calls Tryd.prog 17 #[.slice a5 tl c5, .slice ra tl rc] wr fun e w' => e = .returned (.bool true) ∧ Below wr.heap.size wr w') := hide (by
            have h6 := HOK.out.2
            have := Bytes_same (Pp.textX cs) a5 ra c5 rc wr (by omega) HR5.out HRb.out
            rw [← HTL.out] at this
            exact this)
          rw [← HTL.out]
          clear hown HR5 HRb
          go_wp2_with fail
          refine hBy.out.mono ?_
          rintro e w6 ⟨rfl, hb6⟩
          have HB6 := hide (HB3.out.trans (hb6.mono HB3.out.size))
          clear hb6 hBy
          go_wp2_with fail
          refine (hWk.out _ HB6.out).mono ?_
          rintro e w7 ⟨rfl, hb7⟩
          have HB7 := hide (HB6.out.trans (hb7.mono HB6.out.size))
          clear hb7
          go_wp2_with fail
          go_ret
          exact ⟨rfl, HB7.out⟩
    · rw [if_neg hok] at hrv
      obtain ⟨er, her, herr⟩ : ∃ er : Int, er = (if Pp.progB cs = true then (if (Pp.textX cs).length ≤ 6000 then 0 else 2) else 4) ∧ er ≠ 0 := by
        refine ⟨_, rfl, ?_⟩
        by_cases h1 : Pp.progB cs = true
        · rw [if_pos h1, if_neg (fun h2 => hok ⟨h1, h2⟩)]; decide
        · rw [if_neg h1]; decide
      rw [← her]
      subst hrv
      have herr' : (er != 0) = true := by simpa using herr
      clear her herr hok hb2 p0 hTx
      go_wp2_with fail
      refine (hWk.out _ HB2.out).mono ?_
      rintro e w3 ⟨rfl, hb3⟩
      have HB3 := hide (HB2.out.trans (hb3.mono HB2.out.size))
      clear hb3
      go_wp2_with fail
      go_ret
      exact ⟨rfl, HB3.out⟩

end Go.Proofs.YtdgfidaopkcjoaaDoor

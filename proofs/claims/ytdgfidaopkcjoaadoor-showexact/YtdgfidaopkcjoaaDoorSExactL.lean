/- ShowExact's walk: what is shown is what the page shows. -/
import Derived.Test.YtdgfidaopkcjoaaDoorSExactA
import Derived.Test.YtdgfidaopkcjoaaDoorPText
namespace Go.Proofs.YtdgfidaopkcjoaaDoor
open Go.RowKit
set_option linter.unusedVariables false
set_option linter.unusedSimpArgs false

set_option maxRecDepth 100000 in
set_option maxHeartbeats 16000000 in
theorem sexact_walk (v1 : Value) (ps : List Pp.XCls) (t : Pp.Ty) (w : World) (ht : TabS w) (hp : Tab w) (hg : 3 < w.heap.size ∧ 2 < w.heap.size ∧ 0 < w.heap.size) (h1 : ProgX w v1 ps) (hs : t.name.length ≤ maxLen) :
    Calls Tryd.prog 3 #[.agg #[v1], .agg #[.int .i64 t.kind, .string ⟨t.name.toArray⟩]] w fun e w' => e = .returned (.bool true) ∧ Below w.heap.size w w' := by
  have HT0 : Hid (Sh.Tabs w.heap.size w) := hide ⟨ht, hp, hg⟩
  clear ht hp hg
  have hV := hide (fun w' (hb : Below w.heap.size w w') => Heavy_any ps v1 w' (h1.on hb))
  have HX0 := hide h1
  have HS := hide hs
  obtain ⟨a1, c1_, rfl, _⟩ := h1.1.len
  clear h1
  obtain ⟨n1, hn1⟩ : ∃ q, q = ps.length := ⟨_, rfl⟩
  have HN1 := hide hn1
  rw [← hn1] at HX0 hV ⊢
  clear hn1
  obtain ⟨TN, hTN⟩ : ∃ q : ByteArray, q = ⟨t.name.toArray⟩ := ⟨_, rfl⟩
  have htn : TN.size = t.name.length := by rw [hTN, str_size]
  have htm : TN.size ≤ 9223372036854775807 := by rw [htn]; unfold maxLen at hs; omega
  have HTN := hide hTN
  rw [← hTN]
  clear hTN hs
  generalize hq : (.int .i64 t.kind : Value) = TK
  have HTK := hide hq
  clear hq
  have HB0 := hide (((Below.refl w.heap.size w).alloc (Nat.le_refl _) (.cells #[.slice a1 n1 c1_] 24)).alloc (by simp) (.cells #[TK, .string TN] 26))
  have HA2 := hide ((Below.refl _ _).alloc (Nat.le_refl _) (.cells #[.slice a1 n1 c1_] 24) : Below w.heap.size w _)
  go_enter Tryd.func3, Tryd.ntmps3
  go_wp2_with fail
  refine (hV.out _ HB0.out).mono ?_
  rintro e w1 ⟨⟨b, rfl, hl1⟩, hb1⟩
  obtain ⟨B1, B2, hB⟩ := box_two hb1
  have c0 : w1.cell? ⟨w.heap.size, 0, none⟩ = some (.slice a1 n1 c1_) := B1 0
  have c1' : w1.cell? ⟨w.heap.size + 1, 0, none⟩ = some TK := B2 0
  have c2 : w1.cell? ⟨w.heap.size + 1, 1, none⟩ = some (.string TN) := B2 1
  have hs1 := hb1.size
  simp at hs1
  have HB1 := hide hB
  clear B1 B2 hb1 hB hV HB0 HA2
  cases b with
  | true =>
    go_wp2_with fail
    go_ret
    exact ⟨rfl, HB1.out⟩
  | false =>
  have hli := hl1 rfl
  clear hl1
  by_cases h60 : 60 < TN.size
  · have h60' : (60 : Int) < (TN.size : Int) := by omega
    go_wp2_with fail
    go_ret
    exact ⟨rfl, HB1.out⟩
  have h60' : ¬ ((60 : Int) < (TN.size : Int)) := by omega
  have HB0 := HB1
  have HC : Hid (∀ wx, Below w1.heap.size w1 wx → wx.cell? ⟨w.heap.size, 0, none⟩ = some (.slice a1 n1 c1_) ∧ wx.cell? ⟨w.heap.size + 1, 0, none⟩ = some TK ∧ wx.cell? ⟨w.heap.size + 1, 1, none⟩ = some (.string TN)) := hide fun wx hb => ⟨(hb.cell (p := ⟨w.heap.size, 0, none⟩) (by show w.heap.size < _; omega)).trans c0, (hb.cell (p := ⟨w.heap.size + 1, 0, none⟩) (by show w.heap.size + 1 < _; omega)).trans c1', (hb.cell (p := ⟨w.heap.size + 1, 1, none⟩) (by show w.heap.size + 1 < _; omega)).trans c2⟩
  have HT : Hid (Sh.Tabs w1.heap.size w1) := hide ⟨(HT0.out.on HB0.out).ws, (HT0.out.on HB0.out).pw, by have := HT0.out.hB; have := HB0.out.size; omega⟩
  have HX : Hid (ProgX w1 (.slice a1 n1 c1_) ps) := hide (HX0.out.on HB0.out)
  have hTw := hide (TwinProgram_any ps (.slice a1 n1 c1_) w1 HX.out hli)
  have hTy := hide (fun w' (hb : Below w1.heap.size w1 w') => Type_any t HS.out w' (HT.out.on hb).ws)
  have hTt := hide (fun w' => TypeText_any t HS.out w')
  have hSh := hide (fun w' (hb : Below w1.heap.size w1 w') => Shown_any ps (.slice a1 n1 c1_) w' (HX.out.on hb))
  have hWk : Hid (∀ w', Below w1.heap.size w1 w' → Calls Tryd.prog 15 #[] w' fun e w'' => e = .returned (.bool true) ∧ Below w'.heap.size w' w'') := hide fun w' hb => by
    have ht := HT.out.on hb
    exact wakes_any w' ht.ws ht.pw (by have := ht.hB; have := hb.size; omega)
  rw [← HTN.out, HTK.out] at hTy hTt
  clear HT0 HX0 HB1 hs1
  go_wp2_with fail
  refine hTw.out.mono ?_
  rintro e w2 ⟨v2, rfl, ho2, hb2⟩
  obtain ⟨ta, tc, rfl⟩ := ho2.1.shape
  rw [← HN1.out] at ho2 ⊢
  have hA : Below w2.heap.size w2 (w2.alloc (.cells #[.slice ta n1 tc] 24)) := (Below.refl _ _).alloc (Nat.le_refl _) _
  have HB3 := hide (hb2.trans (hA.mono hb2.size))
  have HIn := hide (ho2.x.on hA)
  have hd := heap_alloc_new w2 (.cells #[.slice ta n1 tc] 24)
  have c0 := (HC.out _ HB3.out).1
  have c1 := (HC.out _ HB3.out).2.1
  have c2 := (HC.out _ HB3.out).2.2
  have d0 := cell_box hd 0
  clear hTw ho2 hb2 hA c1'
  have hPe0 := hide hli
  have hCk := hide (fun w' (hb : Below (w2.alloc (.cells #[.slice ta n1 tc] 24)).heap.size (w2.alloc (.cells #[.slice ta n1 tc] 24)) w') => Check_any ps (.slice ta n1 tc) w' (HT.out.on (HB3.out.trans (hb.mono HB3.out.size))).ws (HIn.out.on hb))
  have hPe := hide (fun w' (hb : Below (w2.alloc (.cells #[.slice ta n1 tc] 24)).heap.size (w2.alloc (.cells #[.slice ta n1 tc] 24)) w') => Program_eq ps ps (.slice ta n1 tc) (.slice a1 n1 c1_) w' (HIn.out.on hb) (HX.out.on (HB3.out.trans (hb.mono HB3.out.size))) hPe0.out hPe0.out)
  have HD : Hid (∀ wx, Below (w2.alloc (.cells #[.slice ta n1 tc] 24)).heap.size (w2.alloc (.cells #[.slice ta n1 tc] 24)) wx → wx.cell? ⟨w2.heap.size, 0, none⟩ = some (.slice ta n1 tc)) := hide fun wx hb => cell_box ((hb.block _ (Sh.lt_of_blk hd)).trans hd) 0
  clear hd hli
  by_cases htb : Pp.typeB t = true
  · obtain ⟨TT, hTT⟩ : ∃ q : ByteArray, q = ⟨(Pp.typeT t).toArray⟩ := ⟨_, rfl⟩
    have hne := sh_nonempty _ (Sh.typeT_ne htb)
    rw [htb, if_pos rfl, ← hTT] at hTy
    rw [← hTT] at hTt hne
    clear hTT htb
    by_cases hpb : Pp.progB ps = true
    · have hpb0 := hpb
      rw [hpb] at hSh
      rw [hpb, if_pos rfl] at hCk
      have hRt := hide (fun w' (hb : Below w1.heap.size w1 w') => refText_any ps _ w' (HX.out.on hb) hpb)
      by_cases h6 : (Pp.textX ps).length ≤ 6000
      · have he0 := errT_is hpb h6
        clear hpb hpb0 h6
        have hT := hide (Text_ok (HT.out.on HB3.out) HB3.out.size he0 HIn.out)
        obtain ⟨ln, hln⟩ : ∃ q, q = (Pp.textX ps).length := ⟨_, rfl⟩
        have h6 : ln ≤ 6000 := by rw [hln]; exact (errT_ok he0).2
        rw [← hln] at hT
        obtain ⟨TX, hTX⟩ : ∃ q : ByteArray, q = ⟨(Pp.textX ps).toArray⟩ := ⟨_, rfl⟩
        have htx : TX.size = ln := by rw [hTX, str_size, hln]
        rw [← hTX] at hT hRt
        clear hln hTX he0
        go_wp2_with fail
        refine hT.out.mono ?_
        rintro e w4 ⟨ra, rc, rfl, hcv, hb4⟩
        have HCV := hide hcv
        clear hcv
        have HB4 := hide (HB3.out.trans (hb4.mono HB3.out.size))
        have H34 := hide hb4
        have H4 := hide (Below.refl w4.heap.size w4)
        clear hT hb4 c0 c1 c2 d0
        obtain ⟨c0, c1, c2⟩ := HC.out w4 HB4.out
        have d0 := HD.out w4 H34.out
        go_wp2_with fail
        refine (hTy.out w4 HB4.out).mono ?_
        rintro e w5 ⟨rfl, hb5⟩
        have HB5 := hide (HB4.out.trans (hb5.mono HB4.out.size))
        have H4 := hide (H4.out.trans (hb5.mono H4.out.size))
        have H35 := hide (H34.out.trans (hb5.mono H34.out.size))
        clear hb5 hTy c0 c1 c2 d0 HB4
        obtain ⟨c0, c1, c2⟩ := HC.out w5 HB5.out
        have d0 := HD.out w5 H35.out
        go_wp2_with fail
        refine (hTt.out w5).mono ?_
        rintro e w6 ⟨rfl, hb6⟩
        have HB6 := hide (HB5.out.trans (hb6.mono HB5.out.size))
        have H4 := hide (H4.out.trans (hb6.mono H4.out.size))
        have H36 := hide (H35.out.trans (hb6.mono H35.out.size))
        clear hb6 hTt c0 c1 c2 d0 HB5
        obtain ⟨c0, c1, c2⟩ := HC.out w6 HB6.out
        have d0 := HD.out w6 H36.out
        go_wp2_with fail
        refine (hSh.out w6 HB6.out).mono ?_
        rintro e w7 ⟨rfl, hb7⟩
        have HB7 := hide (HB6.out.trans (hb7.mono HB6.out.size))
        have H4 := hide (H4.out.trans (hb7.mono H4.out.size))
        have H37 := hide (H36.out.trans (hb7.mono H36.out.size))
        clear hb7 hSh c0 c1 c2 d0 HB6
        obtain ⟨c0, c1, c2⟩ := HC.out w7 HB7.out
        have d0 := HD.out w7 H37.out
        go_wp2_with fail
        refine (hRt.out w7 HB7.out).mono ?_
        rintro e w8 ⟨rfl, hb8⟩
        have HB8 := hide (HB7.out.trans (hb8.mono HB7.out.size))
        have H4 := hide (H4.out.trans (hb8.mono H4.out.size))
        have H38 := hide (H37.out.trans (hb8.mono H37.out.size))
        clear hb8 hRt c0 c1 c2 d0 HB7
        obtain ⟨c0, c1, c2⟩ := HC.out w8 HB8.out
        have d0 := HD.out w8 H38.out
        go_wp2_with fail
        refine (hCk.out w8 H38.out).mono ?_
        rintro e w9 ⟨rfl, hb9⟩
        have HB9 := hide (HB8.out.trans (hb9.mono HB8.out.size))
        have H4 := hide (H4.out.trans (hb9.mono H4.out.size))
        have H39 := hide (H38.out.trans (hb9.mono H38.out.size))
        clear hb9 hCk c0 c1 c2 d0 HB8
        obtain ⟨c0, c1, c2⟩ := HC.out w9 HB9.out
        have d0 := HD.out w9 H39.out
        go_wp2_with fail
        refine (hPe.out w9 H39.out).mono ?_
        rintro e w10 ⟨he9, hb10⟩
        have he9 := he9.yes' rfl
        subst he9
        have HB10 := hide (HB9.out.trans (hb10.mono HB9.out.size))
        have H410 : Below w4.heap.size w4 w10 := H4.out.trans (hb10.mono H4.out.size)
        have hcv := HCV.out w10 H410
        clear hb10 hPe
        go_wp2_with fail
        refine (hWk.out w10 HB10.out).mono ?_
        rintro e w11 ⟨rfl, hb11⟩
        go_wp2_with fail
        go_ret
        exact ⟨rfl, HB0.out.trans ((HB10.out.trans (hb11.mono HB10.out.size)).mono HB0.out.size)⟩
      · have he0 := errT_long hpb h6
        clear hpb0
        have hT := hide (Text_no (HT.out.on HB3.out) HB3.out.size (by rw [he0]; decide) HIn.out)
        rw [he0] at hT
        obtain ⟨TX, hTX⟩ : ∃ q : ByteArray, q = ⟨(Pp.textX ps).toArray⟩ := ⟨_, rfl⟩
        have htx : 6000 < TX.size := by rw [hTX, str_size]; omega
        have htxm : TX.size ≤ 400000 := by rw [hTX, str_size]; have := Pp.textX_len hpb; omega
        rw [← hTX] at hRt
        clear hTX h6
        clear he0
        go_wp2_with fail
        refine hT.out.mono ?_
        rintro e w4 ⟨rfl, hb4⟩
        have HB4 := hide (HB3.out.trans (hb4.mono HB3.out.size))
        have H34 := hide hb4
        clear hT hb4 c0 c1 c2 d0
        obtain ⟨c0, c1, c2⟩ := HC.out w4 HB4.out
        have d0 := HD.out w4 H34.out
        go_wp2_with fail
        refine (hTy.out w4 HB4.out).mono ?_
        rintro e w5 ⟨rfl, hb5⟩
        have HB5 := hide (HB4.out.trans (hb5.mono HB4.out.size))
        have H35 := hide (H34.out.trans (hb5.mono H34.out.size))
        clear hb5 hTy c0 c1 c2 d0 HB4
        obtain ⟨c0, c1, c2⟩ := HC.out w5 HB5.out
        have d0 := HD.out w5 H35.out
        go_wp2_with fail
        refine (hTt.out w5).mono ?_
        rintro e w6 ⟨rfl, hb6⟩
        have HB6 := hide (HB5.out.trans (hb6.mono HB5.out.size))
        have H36 := hide (H35.out.trans (hb6.mono H35.out.size))
        clear hb6 hTt c0 c1 c2 d0 HB5
        obtain ⟨c0, c1, c2⟩ := HC.out w6 HB6.out
        have d0 := HD.out w6 H36.out
        go_wp2_with fail
        refine (hSh.out w6 HB6.out).mono ?_
        rintro e w7 ⟨rfl, hb7⟩
        have HB7 := hide (HB6.out.trans (hb7.mono HB6.out.size))
        have H37 := hide (H36.out.trans (hb7.mono H36.out.size))
        clear hb7 hSh c0 c1 c2 d0 HB6
        obtain ⟨c0, c1, c2⟩ := HC.out w7 HB7.out
        have d0 := HD.out w7 H37.out
        go_wp2_with fail
        refine (hRt.out w7 HB7.out).mono ?_
        rintro e w8 ⟨rfl, hb8⟩
        have HB8 := hide (HB7.out.trans (hb8.mono HB7.out.size))
        have H38 := hide (H37.out.trans (hb8.mono H37.out.size))
        clear hb8 hRt c0 c1 c2 d0 HB7
        obtain ⟨c0, c1, c2⟩ := HC.out w8 HB8.out
        have d0 := HD.out w8 H38.out
        go_wp2_with fail
        refine (hCk.out w8 H38.out).mono ?_
        rintro e w9 ⟨rfl, hb9⟩
        have HB9 := hide (HB8.out.trans (hb9.mono HB8.out.size))
        have H39 := hide (H38.out.trans (hb9.mono H38.out.size))
        clear hb9 hCk c0 c1 c2 d0 HB8
        obtain ⟨c0, c1, c2⟩ := HC.out w9 HB9.out
        have d0 := HD.out w9 H39.out
        go_wp2_with fail
        refine (hPe.out w9 H39.out).mono ?_
        rintro e w10 ⟨he9, hb10⟩
        have he9 := he9.yes' rfl
        subst he9
        have HB10 := hide (HB9.out.trans (hb10.mono HB9.out.size))
        clear hb10 hPe
        go_wp2_with fail
        refine (hWk.out w10 HB10.out).mono ?_
        rintro e w11 ⟨rfl, hb11⟩
        go_wp2_with fail
        go_ret
        exact ⟨rfl, HB0.out.trans ((HB10.out.trans (hb11.mono HB10.out.size)).mono HB0.out.size)⟩
    · have hpf : Pp.progB ps = false := by simpa using hpb
      rw [hpf] at hSh
      rw [hpf, if_neg Bool.false_ne_true] at hCk
      have he0 := errT_none hpf
      clear hpb hpf
      have hT := hide (Text_no (HT.out.on HB3.out) HB3.out.size (by rw [he0]; decide) HIn.out)
      rw [he0] at hT
      clear he0
      go_wp2_with fail
      refine hT.out.mono ?_
      rintro e w4 ⟨rfl, hb4⟩
      have HB4 := hide (HB3.out.trans (hb4.mono HB3.out.size))
      have H34 := hide hb4
      clear hT hb4 c0 c1 c2 d0
      obtain ⟨c0, c1, c2⟩ := HC.out w4 HB4.out
      have d0 := HD.out w4 H34.out
      go_wp2_with fail
      refine (hTy.out w4 HB4.out).mono ?_
      rintro e w5 ⟨rfl, hb5⟩
      have HB5 := hide (HB4.out.trans (hb5.mono HB4.out.size))
      have H35 := hide (H34.out.trans (hb5.mono H34.out.size))
      clear hb5 hTy c0 c1 c2 d0 HB4
      obtain ⟨c0, c1, c2⟩ := HC.out w5 HB5.out
      have d0 := HD.out w5 H35.out
      go_wp2_with fail
      refine (hTt.out w5).mono ?_
      rintro e w6 ⟨rfl, hb6⟩
      have HB6 := hide (HB5.out.trans (hb6.mono HB5.out.size))
      have H36 := hide (H35.out.trans (hb6.mono H35.out.size))
      clear hb6 hTt c0 c1 c2 d0 HB5
      obtain ⟨c0, c1, c2⟩ := HC.out w6 HB6.out
      have d0 := HD.out w6 H36.out
      go_wp2_with fail
      refine (hSh.out w6 HB6.out).mono ?_
      rintro e w7 ⟨rfl, hb7⟩
      have HB7 := hide (HB6.out.trans (hb7.mono HB6.out.size))
      have H37 := hide (H36.out.trans (hb7.mono H36.out.size))
      clear hb7 hSh c0 c1 c2 d0 HB6
      obtain ⟨c0, c1, c2⟩ := HC.out w7 HB7.out
      have d0 := HD.out w7 H37.out
      go_wp2_with fail
      refine (hCk.out w7 H37.out).mono ?_
      rintro e w8 ⟨rfl, hb8⟩
      have HB8 := hide (HB7.out.trans (hb8.mono HB7.out.size))
      have H38 := hide (H37.out.trans (hb8.mono H37.out.size))
      clear hb8 hCk c0 c1 c2 d0 HB7
      obtain ⟨c0, c1, c2⟩ := HC.out w8 HB8.out
      have d0 := HD.out w8 H38.out
      go_wp2_with fail
      refine (hPe.out w8 H38.out).mono ?_
      rintro e w9 ⟨he9, hb9⟩
      have he9 := he9.yes' rfl
      subst he9
      have HB9 := hide (HB8.out.trans (hb9.mono HB8.out.size))
      clear hb9 hPe
      go_wp2_with fail
      refine (hWk.out w9 HB9.out).mono ?_
      rintro e w10 ⟨rfl, hb10⟩
      go_wp2_with fail
      go_ret
      exact ⟨rfl, HB0.out.trans ((HB9.out.trans (hb10.mono HB9.out.size)).mono HB0.out.size)⟩
  · have htf : Pp.typeB t = false := by simpa using htb
    rw [htf, if_neg Bool.false_ne_true, Sh.typeT_no htf] at hTy
    rw [Sh.typeT_no htf] at hTt
    clear htb htf
    by_cases hpb : Pp.progB ps = true
    · have hpb0 := hpb
      rw [hpb] at hSh
      rw [hpb, if_pos rfl] at hCk
      have hRt := hide (fun w' (hb : Below w1.heap.size w1 w') => refText_any ps _ w' (HX.out.on hb) hpb)
      by_cases h6 : (Pp.textX ps).length ≤ 6000
      · have he0 := errT_is hpb h6
        clear hpb hpb0 h6
        have hT := hide (Text_ok (HT.out.on HB3.out) HB3.out.size he0 HIn.out)
        obtain ⟨ln, hln⟩ : ∃ q, q = (Pp.textX ps).length := ⟨_, rfl⟩
        have h6 : ln ≤ 6000 := by rw [hln]; exact (errT_ok he0).2
        rw [← hln] at hT
        obtain ⟨TX, hTX⟩ : ∃ q : ByteArray, q = ⟨(Pp.textX ps).toArray⟩ := ⟨_, rfl⟩
        have htx : TX.size = ln := by rw [hTX, str_size, hln]
        rw [← hTX] at hT hRt
        clear hln hTX he0
        go_wp2_with fail
        refine hT.out.mono ?_
        rintro e w4 ⟨ra, rc, rfl, hcv, hb4⟩
        have HCV := hide hcv
        clear hcv
        have HB4 := hide (HB3.out.trans (hb4.mono HB3.out.size))
        have H34 := hide hb4
        have H4 := hide (Below.refl w4.heap.size w4)
        clear hT hb4 c0 c1 c2 d0
        obtain ⟨c0, c1, c2⟩ := HC.out w4 HB4.out
        have d0 := HD.out w4 H34.out
        go_wp2_with fail
        refine (hTy.out w4 HB4.out).mono ?_
        rintro e w5 ⟨rfl, hb5⟩
        have HB5 := hide (HB4.out.trans (hb5.mono HB4.out.size))
        have H4 := hide (H4.out.trans (hb5.mono H4.out.size))
        have H35 := hide (H34.out.trans (hb5.mono H34.out.size))
        clear hb5 hTy c0 c1 c2 d0 HB4
        obtain ⟨c0, c1, c2⟩ := HC.out w5 HB5.out
        have d0 := HD.out w5 H35.out
        go_wp2_with fail
        refine (hTt.out w5).mono ?_
        rintro e w6 ⟨rfl, hb6⟩
        have HB6 := hide (HB5.out.trans (hb6.mono HB5.out.size))
        have H4 := hide (H4.out.trans (hb6.mono H4.out.size))
        have H36 := hide (H35.out.trans (hb6.mono H35.out.size))
        clear hb6 hTt c0 c1 c2 d0 HB5
        obtain ⟨c0, c1, c2⟩ := HC.out w6 HB6.out
        have d0 := HD.out w6 H36.out
        go_wp2_with fail
        refine (hSh.out w6 HB6.out).mono ?_
        rintro e w7 ⟨rfl, hb7⟩
        have HB7 := hide (HB6.out.trans (hb7.mono HB6.out.size))
        have H4 := hide (H4.out.trans (hb7.mono H4.out.size))
        have H37 := hide (H36.out.trans (hb7.mono H36.out.size))
        clear hb7 hSh c0 c1 c2 d0 HB6
        obtain ⟨c0, c1, c2⟩ := HC.out w7 HB7.out
        have d0 := HD.out w7 H37.out
        go_wp2_with fail
        refine (hRt.out w7 HB7.out).mono ?_
        rintro e w8 ⟨rfl, hb8⟩
        have HB8 := hide (HB7.out.trans (hb8.mono HB7.out.size))
        have H4 := hide (H4.out.trans (hb8.mono H4.out.size))
        have H38 := hide (H37.out.trans (hb8.mono H37.out.size))
        clear hb8 hRt c0 c1 c2 d0 HB7
        obtain ⟨c0, c1, c2⟩ := HC.out w8 HB8.out
        have d0 := HD.out w8 H38.out
        go_wp2_with fail
        refine (hCk.out w8 H38.out).mono ?_
        rintro e w9 ⟨rfl, hb9⟩
        have HB9 := hide (HB8.out.trans (hb9.mono HB8.out.size))
        have H4 := hide (H4.out.trans (hb9.mono H4.out.size))
        have H39 := hide (H38.out.trans (hb9.mono H38.out.size))
        clear hb9 hCk c0 c1 c2 d0 HB8
        obtain ⟨c0, c1, c2⟩ := HC.out w9 HB9.out
        have d0 := HD.out w9 H39.out
        go_wp2_with fail
        refine (hPe.out w9 H39.out).mono ?_
        rintro e w10 ⟨he9, hb10⟩
        have he9 := he9.yes' rfl
        subst he9
        have HB10 := hide (HB9.out.trans (hb10.mono HB9.out.size))
        have H410 : Below w4.heap.size w4 w10 := H4.out.trans (hb10.mono H4.out.size)
        have hcv := HCV.out w10 H410
        clear hb10 hPe
        go_wp2_with fail
        refine (hWk.out w10 HB10.out).mono ?_
        rintro e w11 ⟨rfl, hb11⟩
        go_wp2_with fail
        go_ret
        exact ⟨rfl, HB0.out.trans ((HB10.out.trans (hb11.mono HB10.out.size)).mono HB0.out.size)⟩
      · have he0 := errT_long hpb h6
        clear hpb0
        have hT := hide (Text_no (HT.out.on HB3.out) HB3.out.size (by rw [he0]; decide) HIn.out)
        rw [he0] at hT
        obtain ⟨TX, hTX⟩ : ∃ q : ByteArray, q = ⟨(Pp.textX ps).toArray⟩ := ⟨_, rfl⟩
        have htx : 6000 < TX.size := by rw [hTX, str_size]; omega
        have htxm : TX.size ≤ 400000 := by rw [hTX, str_size]; have := Pp.textX_len hpb; omega
        rw [← hTX] at hRt
        clear hTX h6
        clear he0
        go_wp2_with fail
        refine hT.out.mono ?_
        rintro e w4 ⟨rfl, hb4⟩
        have HB4 := hide (HB3.out.trans (hb4.mono HB3.out.size))
        have H34 := hide hb4
        clear hT hb4 c0 c1 c2 d0
        obtain ⟨c0, c1, c2⟩ := HC.out w4 HB4.out
        have d0 := HD.out w4 H34.out
        go_wp2_with fail
        refine (hTy.out w4 HB4.out).mono ?_
        rintro e w5 ⟨rfl, hb5⟩
        have HB5 := hide (HB4.out.trans (hb5.mono HB4.out.size))
        have H35 := hide (H34.out.trans (hb5.mono H34.out.size))
        clear hb5 hTy c0 c1 c2 d0 HB4
        obtain ⟨c0, c1, c2⟩ := HC.out w5 HB5.out
        have d0 := HD.out w5 H35.out
        go_wp2_with fail
        refine (hTt.out w5).mono ?_
        rintro e w6 ⟨rfl, hb6⟩
        have HB6 := hide (HB5.out.trans (hb6.mono HB5.out.size))
        have H36 := hide (H35.out.trans (hb6.mono H35.out.size))
        clear hb6 hTt c0 c1 c2 d0 HB5
        obtain ⟨c0, c1, c2⟩ := HC.out w6 HB6.out
        have d0 := HD.out w6 H36.out
        go_wp2_with fail
        refine (hSh.out w6 HB6.out).mono ?_
        rintro e w7 ⟨rfl, hb7⟩
        have HB7 := hide (HB6.out.trans (hb7.mono HB6.out.size))
        have H37 := hide (H36.out.trans (hb7.mono H36.out.size))
        clear hb7 hSh c0 c1 c2 d0 HB6
        obtain ⟨c0, c1, c2⟩ := HC.out w7 HB7.out
        have d0 := HD.out w7 H37.out
        go_wp2_with fail
        refine (hRt.out w7 HB7.out).mono ?_
        rintro e w8 ⟨rfl, hb8⟩
        have HB8 := hide (HB7.out.trans (hb8.mono HB7.out.size))
        have H38 := hide (H37.out.trans (hb8.mono H37.out.size))
        clear hb8 hRt c0 c1 c2 d0 HB7
        obtain ⟨c0, c1, c2⟩ := HC.out w8 HB8.out
        have d0 := HD.out w8 H38.out
        go_wp2_with fail
        refine (hCk.out w8 H38.out).mono ?_
        rintro e w9 ⟨rfl, hb9⟩
        have HB9 := hide (HB8.out.trans (hb9.mono HB8.out.size))
        have H39 := hide (H38.out.trans (hb9.mono H38.out.size))
        clear hb9 hCk c0 c1 c2 d0 HB8
        obtain ⟨c0, c1, c2⟩ := HC.out w9 HB9.out
        have d0 := HD.out w9 H39.out
        go_wp2_with fail
        refine (hPe.out w9 H39.out).mono ?_
        rintro e w10 ⟨he9, hb10⟩
        have he9 := he9.yes' rfl
        subst he9
        have HB10 := hide (HB9.out.trans (hb10.mono HB9.out.size))
        clear hb10 hPe
        go_wp2_with fail
        refine (hWk.out w10 HB10.out).mono ?_
        rintro e w11 ⟨rfl, hb11⟩
        go_wp2_with fail
        go_ret
        exact ⟨rfl, HB0.out.trans ((HB10.out.trans (hb11.mono HB10.out.size)).mono HB0.out.size)⟩
    · have hpf : Pp.progB ps = false := by simpa using hpb
      rw [hpf] at hSh
      rw [hpf, if_neg Bool.false_ne_true] at hCk
      have he0 := errT_none hpf
      clear hpb hpf
      have hT := hide (Text_no (HT.out.on HB3.out) HB3.out.size (by rw [he0]; decide) HIn.out)
      rw [he0] at hT
      clear he0
      go_wp2_with fail
      refine hT.out.mono ?_
      rintro e w4 ⟨rfl, hb4⟩
      have HB4 := hide (HB3.out.trans (hb4.mono HB3.out.size))
      have H34 := hide hb4
      clear hT hb4 c0 c1 c2 d0
      obtain ⟨c0, c1, c2⟩ := HC.out w4 HB4.out
      have d0 := HD.out w4 H34.out
      go_wp2_with fail
      refine (hTy.out w4 HB4.out).mono ?_
      rintro e w5 ⟨rfl, hb5⟩
      have HB5 := hide (HB4.out.trans (hb5.mono HB4.out.size))
      have H35 := hide (H34.out.trans (hb5.mono H34.out.size))
      clear hb5 hTy c0 c1 c2 d0 HB4
      obtain ⟨c0, c1, c2⟩ := HC.out w5 HB5.out
      have d0 := HD.out w5 H35.out
      go_wp2_with fail
      refine (hTt.out w5).mono ?_
      rintro e w6 ⟨rfl, hb6⟩
      have HB6 := hide (HB5.out.trans (hb6.mono HB5.out.size))
      have H36 := hide (H35.out.trans (hb6.mono H35.out.size))
      clear hb6 hTt c0 c1 c2 d0 HB5
      obtain ⟨c0, c1, c2⟩ := HC.out w6 HB6.out
      have d0 := HD.out w6 H36.out
      go_wp2_with fail
      refine (hSh.out w6 HB6.out).mono ?_
      rintro e w7 ⟨rfl, hb7⟩
      have HB7 := hide (HB6.out.trans (hb7.mono HB6.out.size))
      have H37 := hide (H36.out.trans (hb7.mono H36.out.size))
      clear hb7 hSh c0 c1 c2 d0 HB6
      obtain ⟨c0, c1, c2⟩ := HC.out w7 HB7.out
      have d0 := HD.out w7 H37.out
      go_wp2_with fail
      refine (hCk.out w7 H37.out).mono ?_
      rintro e w8 ⟨rfl, hb8⟩
      have HB8 := hide (HB7.out.trans (hb8.mono HB7.out.size))
      have H38 := hide (H37.out.trans (hb8.mono H37.out.size))
      clear hb8 hCk c0 c1 c2 d0 HB7
      obtain ⟨c0, c1, c2⟩ := HC.out w8 HB8.out
      have d0 := HD.out w8 H38.out
      go_wp2_with fail
      refine (hPe.out w8 H38.out).mono ?_
      rintro e w9 ⟨he9, hb9⟩
      have he9 := he9.yes' rfl
      subst he9
      have HB9 := hide (HB8.out.trans (hb9.mono HB8.out.size))
      clear hb9 hPe
      go_wp2_with fail
      refine (hWk.out w9 HB9.out).mono ?_
      rintro e w10 ⟨rfl, hb10⟩
      go_wp2_with fail
      go_ret
      exact ⟨rfl, HB0.out.trans ((HB9.out.trans (hb10.mono HB9.out.size)).mono HB0.out.size)⟩

end Go.Proofs.YtdgfidaopkcjoaaDoor

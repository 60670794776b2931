/- HierExact: the walk. -/
import Derived.Test.YtildjihgklgibaaDoorRefHE
import Derived.Test.YtildjihgklgibaaDoorRefHK
import Derived.Test.YtildjihgklgibaaDoorHierS
import Derived.Test.YtildjihgklgibaaDoorHeavyX
import Derived.Test.YtildjihgklgibaaDoorEqW
import Derived.Test.YtildjihgklgibaaDoorEqD
import Derived.Deep.RegionHeld3
namespace Go.Proofs.YtildjihgklgibaaDoor
open Go.RowKit
set_option linter.unusedVariables false
set_option linter.unusedSimpArgs false
namespace Hr
def zeroC : Pp.XCls := plain [] []
theorem zero_lt : Pp.LtC zeroC := ⟨⟨by decide, by decide, by decide, by decide, by decide⟩, (by intro x hx; cases hx), (by intro x hx; cases hx), (by intro x hx; cases hx)⟩
theorem zero_x (w : World) : ClsX w zeroC [.string ⟨#[]⟩, .bool false, .string ⟨#[]⟩, .slice none 0 0, .slice none 0 0, .slice none 0 0] := (bas_plain (n := []) (s := []) (by decide) (by decide)).x w
theorem super_look {cs : List Pp.XCls} {nm : Pp.Bs} (h : lookL cs nm = none) : superQ cs nm = none := by unfold superQ; rw [h]
theorem under_look {cs : List Pp.XCls} {a b : Pp.Bs} (h : lookL cs a = none) : underB cs a b = false := by
  rw [← Bool.not_eq_true, underB_iff]
  rintro ⟨_, _, _, he, _, ha, _⟩
  rw [lookL_yes he, ha] at h; cases h
end Hr

set_option maxRecDepth 100000 in
set_option maxHeartbeats 16000000 in
theorem hierExact_walk (v : Value) (cs : List Pp.XCls) (la lb : Pp.Bs) (w : World) (ht : TabS w) (h : ProgX w v cs) :
    Calls Tryd.prog 3 #[.agg #[v], .string ⟨la.toArray⟩, .string ⟨lb.toArray⟩] w fun e w' => e = .returned (.bool true) ∧ Below w.heap.size w w' := by
  have HP := hide (fun wx (hb : Below w.heap.size w wx) => h.on hb)
  have HT := hide (fun wx (hb : Below w.heap.size w wx) => ht.below hb)
  obtain ⟨pa, pc, rfl, _⟩ := h.1.len
  obtain ⟨n, hn'⟩ : ∃ n, n = cs.length := ⟨_, rfl⟩
  have HN := hide hn'
  rw [← hn'] at HP ⊢
  clear h ht hn'
  have hx0 := hide (heap_alloc_new w (.cells #[.slice pa n pc] 24))
  have HB0 := hide ((Below.refl w.heap.size w).alloc (Nat.le_refl _) (.cells #[.slice pa n pc] 24))
  go_enter Tryd.func3, Tryd.ntmps3
  go_wp2_with fail
  generalize w.alloc (.cells #[.slice pa n pc] 24) = w0 at *
  have HC : Hid (∀ wx, Below w0.heap.size w0 wx → wx.cell? ⟨w.heap.size, 0, none⟩ = some (.slice pa n pc)) := hide fun wx hb => cell_box ((hb.block _ (Ow.lt_of_blk hx0.out)).trans hx0.out) 0
  have HW : Hid (∀ wx, Below w0.heap.size w0 wx → Below w.heap.size w wx) := hide fun wx hb => HB0.out.trans (hb.mono HB0.out.size)
  clear hx0
  refine (Heavy_any cs _ w0 (HP.out w0 HB0.out)).mono ?_
  rintro e w1 ⟨⟨b, rfl, hlb⟩, hb1⟩
  have HB1 := hide hb1
  clear hb1
  cases b with
  | true =>
    go_wp2_with fail
    go_ret
    exact ⟨rfl, HW.out _ HB1.out⟩
  | false =>
  have HLt := hide (hlb rfl)
  have c1 := HC.out w1 HB1.out
  clear hlb
  have hsa : (⟨la.toArray⟩ : ByteArray).size = la.length := by simp [ByteArray.size]
  have hsb : (⟨lb.toArray⟩ : ByteArray).size = lb.length := by simp [ByteArray.size]
  by_cases hla : 60 < la.length
  · have hla' : (60 : Int) < (la.length : Int) := by omega
    go_wp2_with fail
    go_ret
    exact ⟨rfl, HW.out _ HB1.out⟩
  have hla' : (la.length : Int) ≤ 60 := by omega
  by_cases hlb : 60 < lb.length
  · have hlb' : (60 : Int) < (lb.length : Int) := by omega
    go_wp2_with fail
    go_ret
    exact ⟨rfl, HW.out _ HB1.out⟩
  have hlb' : (lb.length : Int) ≤ 60 := by omega
  have HLa : Hid (la.length ≤ maxLen) := hide (by unfold maxLen; omega)
  go_wp2_with fail
  refine (TwinProgram_any cs _ w1 (HP.out _ (HW.out _ HB1.out)) HLt.out).mono ?_
  rintro e w4 ⟨vt, rfl, hpt, hb4⟩
  have HB4 := hide (HB1.out.trans (hb4.mono HB1.out.size))
  obtain ⟨ta, tc, rfl⟩ := hpt.1.shape
  rw [← HN.out] at hpt ⊢
  have hA := (Below.refl w4.heap.size w4).alloc (Nat.le_refl _) (.cells #[.slice ta n tc] 24)
  have HQ5 := hide (heap_alloc_new w4 (.cells #[.slice ta n tc] 24))
  have HB5 := hide (HB4.out.trans (hA.mono HB4.out.size))
  have HI5 := hide ((hpt.x.on hA))
  have c5 := HC.out _ HB5.out
  clear hA hb4 hpt hla' hlb' hsa hsb hla hlb
  go_wp2_with fail
  generalize w4.alloc (.cells #[.slice ta n tc] 24) = w5 at *
  have HIn : Hid (∀ wx, Below w5.heap.size w5 wx → ProgX wx (.slice ta n tc) cs) := hide fun wx hb => HI5.out.on hb
  have HS : Hid (∀ wx, Below w5.heap.size w5 wx → wx.cell? ⟨w.heap.size, 0, none⟩ = some (.slice pa n pc) ∧ wx.cell? ⟨w4.heap.size, 0, none⟩ = some (.slice ta n tc)) := hide fun wx hb => ⟨HC.out wx (HB5.out.trans (hb.mono HB5.out.size)), cell_box ((hb.block _ (Ow.lt_of_blk HQ5.out)).trans HQ5.out) 0⟩
  have HW5 : Hid (∀ wx, Below w5.heap.size w5 wx → Below w.heap.size w wx) := hide fun wx hb => HW.out _ (HB5.out.trans (hb.mono HB5.out.size))
  have HT5 : Hid (∀ wx, Below w5.heap.size w5 wx → TabS wx) := hide fun wx hb => HT.out _ (HW5.out _ hb)
  have HP5 : Hid (∀ wx, Below w5.heap.size w5 wx → ProgX wx (.slice pa n pc) cs) := hide fun wx hb => HP.out _ (HW5.out _ hb)
  have HIf := hide (Hr.light_ifs HLt.out)
  have HM22 := hide (Hr.light_len HLt.out)
  have HLA := hide (Hr.light_all HLt.out)
  clear c1 c5 HI5 HQ5 HT HP
  refine (RHier_any cs _ w5 (HP5.out _ (Below.refl _ _)) HLt.out).mono ?_
  rintro e w6 ⟨rfl, hb6⟩
  have HB6 := hide hb6
  have s6 := (HS.out w6 hb6).2
  have HFd := hide (Find_any cs (.slice ta n tc) la w6 (HT5.out _ hb6) (HIn.out _ hb6) HLt.out)
  have HUn : Hid (∀ wx, Below w5.heap.size w5 wx → Calls Tryd.prog 14 #[.agg #[.slice ta n tc], .string ⟨la.toArray⟩, .string ⟨lb.toArray⟩] wx fun e w' => e = .returned (.bool (Hr.underB cs la lb)) ∧ Below wx.heap.size wx w') := hide fun wx hb => by
    refine (Under_any cs _ la lb wx (HT5.out _ hb) (HIn.out _ hb)).mono ?_
    rintro e w' ⟨⟨y, rfl, hy⟩, hb'⟩
    have : y = Hr.underB cs la lb := by
      cases y with
      | true => exact ((Hr.underB_iff _ _ _).2 (hy.1 rfl)).symm
      | false =>
        cases hu : Hr.underB cs la lb with
        | false => rfl
        | true => exact hy.2 ((Hr.underB_iff _ _ _).1 hu)
    rw [this]
    exact ⟨rfl, hb'⟩
  have HKi := hide (fun wx (hb : Below w5.heap.size w5 wx) => Kinds_any cs (.slice ta n tc) la wx (HT5.out _ hb) (HIn.out _ hb))
  have HCk := hide (fun wx (hb : Below w5.heap.size w5 wx) => hCheck_any cs (.slice ta n tc) wx (HT5.out _ hb) (HIn.out _ hb))
  have HAl := hide (fun wx (hb : Below w5.heap.size w5 wx) => All_any cs (.slice ta n tc) wx (HIn.out _ hb) HLt.out)
  have HRl := hide (fun wx (hb : Below w5.heap.size w5 wx) => RAll_any cs (.slice pa n pc) wx (HP5.out _ hb) HLt.out)
  have HPe := hide (fun wx (hb : Below w5.heap.size w5 wx) => Program_eq cs cs (.slice ta n tc) (.slice pa n pc) wx (HIn.out _ hb) (HP5.out _ hb) HLt.out HLt.out)
  have HSu := hide (fun wx (hb : Below w5.heap.size w5 wx) => Super_any cs (.slice ta n tc) la wx (HT5.out _ hb) (HIn.out _ hb))
  have HWk := hide (fun wx (hb : Below w5.heap.size w5 wx) => hwakes_any wx (HT5.out _ hb))
  have HKl : Hid ((Hr.kindsQ cs la).length ≤ 14) := hide (Nat.le_trans (Hr.kinds_len cs cs la) HLt.out.1)
  clear hb6
  obtain ⟨er, her⟩ : ∃ q, q = Hr.errL cs := ⟨_, rfl⟩
  have HER := hide her
  rw [← her] at HCk ⊢
  clear her
  cases hlk : Hr.lookL cs la with
  | none =>
    have HLk := hide hlk
    go_wp2_with fail
    refine HFd.out.mono ?_
    rintro e w7 ⟨hfi, hb7⟩
    unfold Hr.FindIs at hfi
    rw [HLk.out] at hfi
    simp only at hfi
    subst hfi
    rw [Hr.super_look HLk.out] at HSu
    rw [Hr.under_look HLk.out] at HUn
    simp only [Hr.pairS] at HSu
    clear hlk

    have hA8 : Below w5.heap.size w5 (w7.alloc (.cells #[.string ⟨#[]⟩, .bool false, .string ⟨#[]⟩, .slice none 0 0, .slice none 0 0, .slice none 0 0] 33)) := (HB6.out.trans (hb7.mono HB6.out.size)).alloc (HB6.out.trans (hb7.mono HB6.out.size)).size _
    have HB8 := hide hA8
    have HF8 := hide (heap_alloc_new w7 (.cells #[.string ⟨#[]⟩, .bool false, .string ⟨#[]⟩, .slice none 0 0, .slice none 0 0, .slice none 0 0] 33))
    have s8 := (HS.out _ hA8).2
    clear hA8 hb7 s6 HFd
    go_wp2_with fail
    generalize w7.alloc (.cells #[.string ⟨#[]⟩, .bool false, .string ⟨#[]⟩, .slice none 0 0, .slice none 0 0, .slice none 0 0] 33) = w8 at *
    refine (HSu.out w8 HB8.out).mono ?_
    rintro e w9 ⟨rfl, hb9⟩
    have HB9 := hide (HB8.out.trans (hb9.mono HB8.out.size))
    have H89 := hide hb9
    have s9 := (HS.out _ HB9.out).2
    clear hb9 s8 HSu
    go_wp2_with fail
    have HBz : Hid (Below w5.heap.size w5 w9.drew) := hide (HB9.out.trans ((Below.drew (Below.refl _ _)).mono HB9.out.size))
    have H8c : Hid (Below w8.heap.size w8 w9.drew) := hide (H89.out.trans ((Below.drew (Below.refl _ _)).mono H89.out.size))
    go_region_held3 (fun wz => wz.cell? ⟨w4.heap.size, 0, none⟩ = some (.slice ta n tc)) (exact (HS.out _ HBz.out).2)
      (first
        | (go_at_call 14
           refine (HUn.out _ HBz.out).mono ?_
           rintro e wn ⟨rfl, hbn⟩
           have HBz := hide (HBz.out.trans (hbn.mono HBz.out.size))
           have H8c := hide (H8c.out.trans (hbn.mono H8c.out.size))
           clear hbn)
        | (go_at_call 15
           refine (HKi.out _ HBz.out).mono ?_
           rintro e wk ⟨vk, rfl, hok, hbn⟩
           have HBz := hide (HBz.out.trans (hbn.mono HBz.out.size))
           have H8c := hide (H8c.out.trans (hbn.mono H8c.out.size))
           have HOk := hide (hok.row Ow.shp_str fun _ _ h => h)
           obtain ⟨ka, kc, rfl⟩ := hok.shape
           clear hok hbn))

    have HOz : Hid (RowX wk 1 StrX (.slice ka (Hr.kindsQ cs la).length kc) (Hr.kindsQ cs la)) := hide HOk.out
    have HZ := hide HBz.out
    have H8z : Hid (Below w8.heap.size w8 wk) := hide H8c.out
    clear HOk HBz H8c s9 HUn HKi
    generalize wk = wz at *
    obtain ⟨kn, hkn⟩ : ∃ q, q = (Hr.kindsQ cs la).length := ⟨_, rfl⟩
    have HKn := hide hkn
    rw [← hkn] at HOz HKl ⊢
    clear hkn
    have HBz : Hid (Below w5.heap.size w5 wz.drew) := hide (HZ.out.trans ((Below.drew (Below.refl _ _)).mono HZ.out.size))
    have HZz : Hid (Below wz.heap.size wz wz.drew) := hide (Below.drew (Below.refl _ _))
    go_wp2_with fail
    go_region_held3 (fun wy => wy.cell? ⟨w.heap.size, 0, none⟩ = some (.slice pa n pc) ∧ wy.cell? ⟨w4.heap.size, 0, none⟩ = some (.slice ta n tc)) (exact HS.out _ HBz.out)
      (first
        | (go_at_call 16
           refine (HCk.out _ HBz.out).mono ?_
           rintro e wn ⟨rfl, hbn⟩
           have HBz := hide (HBz.out.trans (hbn.mono HBz.out.size))
           have HZz := hide (HZz.out.trans (hbn.mono HZz.out.size))
           clear hbn)
        | (go_at_call 18
           refine (HAl.out _ HBz.out).mono ?_
           rintro e wn ⟨va, rfl, hoa, hbn⟩
           have HBz := hide (HBz.out.trans (hbn.mono HBz.out.size))
           have HZz := hide (HZz.out.trans (hbn.mono HZz.out.size))
           have HOa := hide (hoa.row (P' := ClsX wn) Ow.shp_cls fun _ _ h => h.x)
           obtain ⟨aa, ac, rfl⟩ := hoa.shape
           first
             | (have HOr := hide (HOr.out.on (P' := ClsX wn) hbn fun _ _ h => h.on hbn)
                clear hoa hbn)
             | clear hoa hbn)
        | (go_at_call 19
           refine (HRl.out _ HBz.out).mono ?_
           rintro e wn ⟨vr, rfl, hor, hbn⟩
           have HBz := hide (HBz.out.trans (hbn.mono HBz.out.size))
           have HZz := hide (HZz.out.trans (hbn.mono HZz.out.size))
           have HOr := hide (hor.row (P' := ClsX wn) Ow.shp_cls fun _ _ h => h.x)
           obtain ⟨ra, rc, rfl⟩ := hor.shape
           first
             | (have HOa := hide (HOa.out.on (P' := ClsX wn) hbn fun _ _ h => h.on hbn)
                clear hor hbn)
             | clear hor hbn)
        | (go_at_call 17
           refine (ClassesW_eq (Hr.allL cs) (Hr.allL cs) _ _ _ HOa.out HOr.out (Nat.le_trans HM22.out (by decide)) (Nat.le_trans HM22.out (by decide)) HLA.out HLA.out).mono ?_
           intro e wn hpp
           have hcl := hpp.1
           have hbn := hpp.2
           obtain rfl := hcl.yes' rfl
           have HBz := hide (HBz.out.trans (hbn.mono HBz.out.size))
           have HZz := hide (HZz.out.trans (hbn.mono HZz.out.size))
           clear hbn hcl hpp)
        | (go_at_call 20
           refine (HPe.out _ HBz.out).mono ?_
           intro e wn hpp
           have hcl := hpp.1
           have hbn := hpp.2
           obtain rfl := hcl.yes' rfl
           have HBz := hide (HBz.out.trans (hbn.mono HBz.out.size))
           have HZz := hide (HZz.out.trans (hbn.mono HZz.out.size))
           clear hbn hcl hpp))
    all_goals
      have sp := (HS.out _ HBz.out).1
      have HBy := hide HBz.out
      have HZy := hide HZz.out
      clear HOa HOr HBz HZz HAl HCk HPe
      go_wp2_with fail
      refine (HRl.out _ HBy.out).mono ?_
      rintro e wl ⟨vl, rfl, hol, hbl⟩
      have HBl := hide (HBy.out.trans (hbl.mono HBy.out.size))
      have HZl := hide (HZy.out.trans (hbl.mono HZy.out.size))
      have HRw : Hid (RowX wl 6 (ClsX wl) vl (Hr.allL cs)) := hide (hol.row Ow.shp_cls fun _ _ h => h.x)
      obtain ⟨l5, lc, rfl⟩ := hol.shape
      have HAt := hide (RAt_any (Hr.allL cs) _ la wl HRw.out (Nat.le_trans HM22.out (by decide)))
      clear hbl hol sp HRl
      go_wp2_with fail
      refine HAt.out.mono ?_
      rintro e wt ⟨rfl, hbt⟩
      have HBt := hide (HBl.out.trans (hbt.mono HBl.out.size))
      have HZt := hide (HZl.out.trans (hbt.mono HZl.out.size))
      have HLt2 := hide hbt
      have H8t := hide (H8z.out.trans (HZt.out.mono H8z.out.size))
      clear hbt HAt
      have g0 := cell_box ((H8t.out.block _ (Ow.lt_of_blk HF8.out)).trans HF8.out) 0
      have g1 := cell_box ((H8t.out.block _ (Ow.lt_of_blk HF8.out)).trans HF8.out) 1
      have g2 := cell_box ((H8t.out.block _ (Ow.lt_of_blk HF8.out)).trans HF8.out) 2
      have g3 := cell_box ((H8t.out.block _ (Ow.lt_of_blk HF8.out)).trans HF8.out) 3
      have g4 := cell_box ((H8t.out.block _ (Ow.lt_of_blk HF8.out)).trans HF8.out) 4
      have g5 := cell_box ((H8t.out.block _ (Ow.lt_of_blk HF8.out)).trans HF8.out) 5
      have HCz := hide (Class_eq Hr.zeroC Hr.zeroC _ _ wt (Hr.zero_x wt) (Hr.zero_x wt) Hr.zero_lt Hr.zero_lt)
      by_cases he : er = 0
      · subst he
        have hpn : Hr.placeL (Hr.allL cs) la = none := by have := HLk.out; rwa [Hr.lookL_yes HER.out.symm] at this
        rw [hpn]
        simp only [Hr.placeI]
        clear hpn
        go_wp2_with fail
        refine HCz.out.mono ?_
        intro e wn hpp
        have hbn := hpp.2
        obtain rfl := hpp.1.yes' rfl
        have HBz := hide (HBt.out.trans (hbn.mono HBt.out.size))
        have HZz := hide (HZt.out.trans (hbn.mono HZt.out.size))
        have sp := (HS.out _ HBz.out).1
        clear hbn hpp g0 g1 g2 g3 g4 g5 HCz
        go_wp2_with fail
        refine (RKinds_any cs _ la wn (HP5.out _ HBz.out) HLt.out HER.out.symm HIf.out HM22.out).mono ?_
        rintro e wk2 ⟨vk2, rfl, hok2, hbk2⟩
        have HB2 := hide (HBz.out.trans (hbk2.mono HBz.out.size))
        have HZ2 := hide (HZz.out.trans (hbk2.mono HZz.out.size))
        have HSt := hide (Strings_eq (Hr.kindsQ cs la) (Hr.kindsQ cs la) _ _ wk2 (HOz.out.on HZ2.out fun _ _ h => h) (hok2.row Ow.shp_str fun _ _ h => h) (by rw [← HKn.out]; exact Nat.le_trans HKl.out (by decide)) (by rw [← HKn.out]; exact Nat.le_trans HKl.out (by decide)))
        clear hbk2 hok2 sp
        go_wp2_with fail
        refine HSt.out.mono ?_
        intro e wn2 hpp
        have hbn := hpp.2
        obtain rfl := hpp.1.yes' rfl
        have HB3 := hide (HB2.out.trans (hbn.mono HB2.out.size))
        clear hbn hpp HSt
        go_wp2_with fail
        refine (HWk.out _ HB3.out).mono ?_
        rintro e wz2 ⟨rfl, hbn⟩
        have HB4 := hide (HB3.out.trans (hbn.mono HB3.out.size))
        clear hbn
        go_wp2_with fail
        go_ret
        exact ⟨rfl, HW5.out _ HB4.out⟩
      · have hne : (er != 0) = true := by simpa using he
        have hne2 : (er == 0) = false := by simpa using he
        have hkn0 : kn = 0 := by rw [HKn.out, Hr.kinds_none HLk.out]; rfl
        subst hkn0
        generalize Hr.placeI (Hr.placeL (Hr.allL cs) la) = pl at *
        go_wp2_with fail
        refine HCz.out.mono ?_
        intro e wn hpp
        have hbn := hpp.2
        obtain rfl := hpp.1.yes' rfl
        have HBz := hide (HBt.out.trans (hbn.mono HBt.out.size))
        clear hbn hpp g0 g1 g2 g3 g4 g5 HCz
        go_wp2_with fail
        refine (HWk.out _ HBz.out).mono ?_
        rintro e wz2 ⟨rfl, hbn⟩
        have HB4 := hide (HBz.out.trans (hbn.mono HBz.out.size))
        clear hbn
        go_wp2_with fail
        go_ret
        exact ⟨rfl, HW5.out _ HB4.out⟩
  | some k =>
    have HLk := hide hlk
    obtain ⟨he, hp⟩ := Hr.lookL_some hlk
    obtain ⟨x, hx, -, -⟩ := Hr.placeL_lt hp
    have HXx := hide hx
    have HPk := hide hp
    obtain rfl : er = 0 := by rw [HER.out, he]
    have HLx := hide (HLA.out x (List.mem_of_getElem? hx))
    have HSq : Hid (Hr.superQ cs la = Hr.superL x) := hide (by unfold Hr.superQ; rw [hlk]; simp only [hx])
    rw [HSq.out] at HSu
    clear hlk he hp hx HSq
    cases hs : Hr.superL x with
    | none =>
      have HSS : Hid (Hr.superS x = []) := hide (by unfold Hr.superS; rw [hs]; rfl)
      rw [hs] at HSu
      simp only [Hr.pairS] at HSu
      clear hs
      go_wp2_with fail
      refine HFd.out.mono ?_
      rintro e w7 ⟨hfi, hb7⟩
      unfold Hr.FindIs at hfi
      rw [HLk.out] at hfi
      obtain ⟨x', ys, hx', rfl, hys⟩ := hfi
      rw [HXx.out] at hx'; cases hx'
      have hcx := hys.x
      obtain ⟨vp, vc, vk', rfl, p1, i1, k1, -⟩ := hys
      obtain ⟨va1, vd1, rfl⟩ := p1.shape
      obtain ⟨va2, vd2, rfl⟩ := i1.shape
      obtain ⟨va3, vd3, rfl⟩ := k1.shape
      clear p1 i1 k1
      simp only [clsXL, List.toArray] at hcx ⊢
      have HCX : Hid (ClsX (w7.alloc (.cells #[.string ⟨x.name.toArray⟩, .bool x.iface, .string ⟨x.super.toArray⟩, .slice va1 x.ifaces.length vd1, .slice va2 x.fields.length vd2, .slice va3 x.methods.length vd3] 33)) x [.string ⟨x.name.toArray⟩, .bool x.iface, .string ⟨x.super.toArray⟩, .slice va1 x.ifaces.length vd1, .slice va2 x.fields.length vd2, .slice va3 x.methods.length vd3]) := hide (hcx.on ((Below.refl _ _).alloc (Nat.le_refl _) _))
      clear hcx

      have hA8 : Below w5.heap.size w5 (w7.alloc (.cells #[.string ⟨x.name.toArray⟩, .bool x.iface, .string ⟨x.super.toArray⟩, .slice va1 x.ifaces.length vd1, .slice va2 x.fields.length vd2, .slice va3 x.methods.length vd3] 33)) := (HB6.out.trans (hb7.mono HB6.out.size)).alloc (HB6.out.trans (hb7.mono HB6.out.size)).size _
      have HB8 := hide hA8
      have HF8 := hide (heap_alloc_new w7 (.cells #[.string ⟨x.name.toArray⟩, .bool x.iface, .string ⟨x.super.toArray⟩, .slice va1 x.ifaces.length vd1, .slice va2 x.fields.length vd2, .slice va3 x.methods.length vd3] 33))
      have s8 := (HS.out _ hA8).2
      clear hA8 hb7 s6 HFd
      go_wp2_with fail
      generalize w7.alloc (.cells #[.string ⟨x.name.toArray⟩, .bool x.iface, .string ⟨x.super.toArray⟩, .slice va1 x.ifaces.length vd1, .slice va2 x.fields.length vd2, .slice va3 x.methods.length vd3] 33) = w8 at *
      refine (HSu.out w8 HB8.out).mono ?_
      rintro e w9 ⟨rfl, hb9⟩
      have HB9 := hide (HB8.out.trans (hb9.mono HB8.out.size))
      have H89 := hide hb9
      have s9 := (HS.out _ HB9.out).2
      clear hb9 s8 HSu
      go_wp2_with fail
      have HBz : Hid (Below w5.heap.size w5 w9.drew) := hide (HB9.out.trans ((Below.drew (Below.refl _ _)).mono HB9.out.size))
      have H8c : Hid (Below w8.heap.size w8 w9.drew) := hide (H89.out.trans ((Below.drew (Below.refl _ _)).mono H89.out.size))
      go_region_held3 (fun wz => wz.cell? ⟨w4.heap.size, 0, none⟩ = some (.slice ta n tc)) (exact (HS.out _ HBz.out).2)
        (first
          | (go_at_call 14
             refine (HUn.out _ HBz.out).mono ?_
             rintro e wn ⟨rfl, hbn⟩
             have HBz := hide (HBz.out.trans (hbn.mono HBz.out.size))
             have H8c := hide (H8c.out.trans (hbn.mono H8c.out.size))
             clear hbn)
          | (go_at_call 15
             refine (HKi.out _ HBz.out).mono ?_
             rintro e wk ⟨vk, rfl, hok, hbn⟩
             have HBz := hide (HBz.out.trans (hbn.mono HBz.out.size))
             have H8c := hide (H8c.out.trans (hbn.mono H8c.out.size))
             have HOk := hide (hok.row Ow.shp_str fun _ _ h => h)
             obtain ⟨ka, kc, rfl⟩ := hok.shape
             clear hok hbn))

      have HOz : Hid (RowX wk 1 StrX (.slice ka (Hr.kindsQ cs la).length kc) (Hr.kindsQ cs la)) := hide HOk.out
      have HZ := hide HBz.out
      have H8z : Hid (Below w8.heap.size w8 wk) := hide H8c.out
      clear HOk HBz H8c s9 HUn HKi
      generalize wk = wz at *
      obtain ⟨kn, hkn⟩ : ∃ q, q = (Hr.kindsQ cs la).length := ⟨_, rfl⟩
      have HKn := hide hkn
      rw [← hkn] at HOz HKl ⊢
      clear hkn
      have HBz : Hid (Below w5.heap.size w5 wz.drew) := hide (HZ.out.trans ((Below.drew (Below.refl _ _)).mono HZ.out.size))
      have HZz : Hid (Below wz.heap.size wz wz.drew) := hide (Below.drew (Below.refl _ _))
      go_wp2_with fail
      go_region_held3 (fun wy => wy.cell? ⟨w.heap.size, 0, none⟩ = some (.slice pa n pc) ∧ wy.cell? ⟨w4.heap.size, 0, none⟩ = some (.slice ta n tc)) (exact HS.out _ HBz.out)
        (first
          | (go_at_call 16
             refine (HCk.out _ HBz.out).mono ?_
             rintro e wn ⟨rfl, hbn⟩
             have HBz := hide (HBz.out.trans (hbn.mono HBz.out.size))
             have HZz := hide (HZz.out.trans (hbn.mono HZz.out.size))
             clear hbn)
          | (go_at_call 18
             refine (HAl.out _ HBz.out).mono ?_
             rintro e wn ⟨va, rfl, hoa, hbn⟩
             have HBz := hide (HBz.out.trans (hbn.mono HBz.out.size))
             have HZz := hide (HZz.out.trans (hbn.mono HZz.out.size))
             have HOa := hide (hoa.row (P' := ClsX wn) Ow.shp_cls fun _ _ h => h.x)
             obtain ⟨aa, ac, rfl⟩ := hoa.shape
             first
               | (have HOr := hide (HOr.out.on (P' := ClsX wn) hbn fun _ _ h => h.on hbn)
                  clear hoa hbn)
               | clear hoa hbn)
          | (go_at_call 19
             refine (HRl.out _ HBz.out).mono ?_
             rintro e wn ⟨vr, rfl, hor, hbn⟩
             have HBz := hide (HBz.out.trans (hbn.mono HBz.out.size))
             have HZz := hide (HZz.out.trans (hbn.mono HZz.out.size))
             have HOr := hide (hor.row (P' := ClsX wn) Ow.shp_cls fun _ _ h => h.x)
             obtain ⟨ra, rc, rfl⟩ := hor.shape
             first
               | (have HOa := hide (HOa.out.on (P' := ClsX wn) hbn fun _ _ h => h.on hbn)
                  clear hor hbn)
               | clear hor hbn)
          | (go_at_call 17
             refine (ClassesW_eq (Hr.allL cs) (Hr.allL cs) _ _ _ HOa.out HOr.out (Nat.le_trans HM22.out (by decide)) (Nat.le_trans HM22.out (by decide)) HLA.out HLA.out).mono ?_
             intro e wn hpp
             have hcl := hpp.1
             have hbn := hpp.2
             obtain rfl := hcl.yes' rfl
             have HBz := hide (HBz.out.trans (hbn.mono HBz.out.size))
             have HZz := hide (HZz.out.trans (hbn.mono HZz.out.size))
             clear hbn hcl hpp)
          | (go_at_call 20
             refine (HPe.out _ HBz.out).mono ?_
             intro e wn hpp
             have hcl := hpp.1
             have hbn := hpp.2
             obtain rfl := hcl.yes' rfl
             have HBz := hide (HBz.out.trans (hbn.mono HBz.out.size))
             have HZz := hide (HZz.out.trans (hbn.mono HZz.out.size))
             clear hbn hcl hpp))
      all_goals
        have sp := (HS.out _ HBz.out).1
        have HBy := hide HBz.out
        have HZy := hide HZz.out
        clear HOa HOr HBz HZz HAl HCk HPe
        go_wp2_with fail
        refine (HRl.out _ HBy.out).mono ?_
        rintro e wl ⟨vl, rfl, hol, hbl⟩
        have HBl := hide (HBy.out.trans (hbl.mono HBy.out.size))
        have HZl := hide (HZy.out.trans (hbl.mono HZy.out.size))
        have HRw : Hid (RowX wl 6 (ClsX wl) vl (Hr.allL cs)) := hide (hol.row Ow.shp_cls fun _ _ h => h.x)
        obtain ⟨l5, lc, rfl⟩ := hol.shape
        have HAt := hide (RAt_any (Hr.allL cs) _ la wl HRw.out (Nat.le_trans HM22.out (by decide)))
        clear hbl hol sp HRl
        go_wp2_with fail
        refine HAt.out.mono ?_
        rintro e wt ⟨rfl, hbt⟩
        have HBt := hide (HBl.out.trans (hbt.mono HBl.out.size))
        have HZt := hide (HZl.out.trans (hbt.mono HZl.out.size))
        have HLt2 := hide hbt
        have H8t := hide (H8z.out.trans (HZt.out.mono H8z.out.size))
        clear hbt HAt
        obtain ⟨g2, o2, eg2, ys2, hys2, hc2⟩ := Hr.row_at HRw.out HXx.out
        subst eg2
        have hkm : k < (Hr.allL cs).length := (List.getElem?_eq_some_iff.1 HXx.out).1
        obtain ⟨m, hm⟩ : ∃ q, q = (Hr.allL cs).length := ⟨_, rfl⟩
        have hm22 : m ≤ 22 := by rw [hm]; exact HM22.out
        rw [← hm] at hkm ⊢
        have hkm' : (k : Int) < (m : Int) := by omega
        have hm22' : (m : Int) ≤ 22 := by omega
        have HY2 := hide hys2
        have HC2 := hide hc2
        have HRs := hide (RSuper_any x ys2 wt (hys2.on HLt2.out))
        rw [HSS.out] at HRs
        obtain ⟨b1, d1, b2, d2, b3, d3, rfl⟩ := Hr.at_c hys2
        have r0 := hc2 wt HLt2.out 0 _ rfl
        have r1 := hc2 wt HLt2.out 1 _ rfl
        have r2 := hc2 wt HLt2.out 2 _ rfl
        have r3 := hc2 wt HLt2.out 3 _ rfl
        have r4 := hc2 wt HLt2.out 4 _ rfl
        have r5 := hc2 wt HLt2.out 5 _ rfl
        rw [Nat.add_zero] at r0
        rw [HPk.out]
        simp only [Hr.placeI]
        clear hm hys2 hc2 HRw
        go_wp2_with fail
        refine HRs.out.mono ?_
        rintro e wr ⟨rfl, hbr⟩
        have HBr := hide (HBt.out.trans (hbr.mono HBt.out.size))
        have HLr := hide (HLt2.out.trans (hbr.mono HLt2.out.size))
        have H8r := hide (H8t.out.trans (hbr.mono H8t.out.size))
        have HZr := hide (HZt.out.trans (hbr.mono HZt.out.size))
        clear hbr r0 r1 r2 r3 r4 r5 HRs
        have ZS : Hid (∀ wx, Below w5.heap.size w5 wx → Below w8.heap.size w8 wx → Below wl.heap.size wl wx → (wx.cell? ⟨w.heap.size, 0, none⟩ = some (.slice pa n pc) ∧ wx.cell? ⟨w7.heap.size, 0, none⟩ = some (.string ⟨x.name.toArray⟩) ∧ wx.cell? ⟨w7.heap.size, 1, none⟩ = some (.bool x.iface) ∧ wx.cell? ⟨w7.heap.size, 2, none⟩ = some (.string ⟨x.super.toArray⟩) ∧ wx.cell? ⟨w7.heap.size, 3, none⟩ = some (.slice va1 x.ifaces.length vd1) ∧ wx.cell? ⟨w7.heap.size, 4, none⟩ = some (.slice va2 x.fields.length vd2) ∧ wx.cell? ⟨w7.heap.size, 5, none⟩ = some (.slice va3 x.methods.length vd3)) ∧ (wx.cell? ⟨g2, o2 + k * 6, none⟩ = some (.string ⟨x.name.toArray⟩) ∧ wx.cell? ⟨g2, o2 + k * 6 + 1, none⟩ = some (.bool x.iface) ∧ wx.cell? ⟨g2, o2 + k * 6 + 2, none⟩ = some (.string ⟨x.super.toArray⟩) ∧ wx.cell? ⟨g2, o2 + k * 6 + 3, none⟩ = some (.slice b1 x.ifaces.length d1) ∧ wx.cell? ⟨g2, o2 + k * 6 + 4, none⟩ = some (.slice b2 x.fields.length d2) ∧ wx.cell? ⟨g2, o2 + k * 6 + 5, none⟩ = some (.slice b3 x.methods.length d3))) := hide fun wx h5 h8 hl => by
          have hF := (h8.block _ (Ow.lt_of_blk HF8.out)).trans HF8.out
          exact ⟨⟨(HS.out _ h5).1, cell_box hF 0, cell_box hF 1, cell_box hF 2, cell_box hF 3, cell_box hF 4, cell_box hF 5⟩, HC2.out wx hl 0 _ rfl, HC2.out wx hl 1 _ rfl, HC2.out wx hl 2 _ rfl, HC2.out wx hl 3 _ rfl, HC2.out wx hl 4 _ rfl, HC2.out wx hl 5 _ rfl⟩
        have hDr : Below wr.heap.size wr wr.drew := Below.drew (Below.refl _ _)
        have HBz := hide (HBr.out.trans (hDr.mono HBr.out.size))
        have H8z := hide (H8r.out.trans (hDr.mono H8r.out.size))
        have HLz := hide (HLr.out.trans (hDr.mono HLr.out.size))
        have HZz := hide (HZr.out.trans (hDr.mono HZr.out.size))
        have HCl : Hid (∀ wx, Below w8.heap.size w8 wx → Below wl.heap.size wl wx → Calls Tryd.prog 22 #[.agg #[.string ⟨x.name.toArray⟩, .bool x.iface, .string ⟨x.super.toArray⟩, .slice va1 x.ifaces.length vd1, .slice va2 x.fields.length vd2, .slice va3 x.methods.length vd3], .agg #[.string ⟨x.name.toArray⟩, .bool x.iface, .string ⟨x.super.toArray⟩, .slice b1 x.ifaces.length d1, .slice b2 x.fields.length d2, .slice b3 x.methods.length d3]] wx fun e w' => e = .returned (.bool true) ∧ Below wx.heap.size wx w') := hide fun wx h8 hl => by
          refine (Class_eq x x _ _ wx (HCX.out.on h8) (HY2.out.on hl) HLx.out HLx.out).mono ?_
          intro e w' hpp
          exact ⟨hpp.1.yes' rfl, hpp.2⟩
        clear hDr HS
        go_wp2_with fail
        go_region_held3 (fun wx => (wx.cell? ⟨w.heap.size, 0, none⟩ = some (.slice pa n pc) ∧ wx.cell? ⟨w7.heap.size, 0, none⟩ = some (.string ⟨x.name.toArray⟩) ∧ wx.cell? ⟨w7.heap.size, 1, none⟩ = some (.bool x.iface) ∧ wx.cell? ⟨w7.heap.size, 2, none⟩ = some (.string ⟨x.super.toArray⟩) ∧ wx.cell? ⟨w7.heap.size, 3, none⟩ = some (.slice va1 x.ifaces.length vd1) ∧ wx.cell? ⟨w7.heap.size, 4, none⟩ = some (.slice va2 x.fields.length vd2) ∧ wx.cell? ⟨w7.heap.size, 5, none⟩ = some (.slice va3 x.methods.length vd3)) ∧ (wx.cell? ⟨g2, o2 + k * 6, none⟩ = some (.string ⟨x.name.toArray⟩) ∧ wx.cell? ⟨g2, o2 + k * 6 + 1, none⟩ = some (.bool x.iface) ∧ wx.cell? ⟨g2, o2 + k * 6 + 2, none⟩ = some (.string ⟨x.super.toArray⟩) ∧ wx.cell? ⟨g2, o2 + k * 6 + 3, none⟩ = some (.slice b1 x.ifaces.length d1) ∧ wx.cell? ⟨g2, o2 + k * 6 + 4, none⟩ = some (.slice b2 x.fields.length d2) ∧ wx.cell? ⟨g2, o2 + k * 6 + 5, none⟩ = some (.slice b3 x.methods.length d3))) (exact ZS.out _ HBz.out H8z.out HLz.out)
          (first
            | (go_at_call 22
               refine (HCl.out _ H8z.out HLz.out).mono ?_
               rintro e wn ⟨rfl, hbn⟩
               have HBz := hide (HBz.out.trans (hbn.mono HBz.out.size))
               have H8z := hide (H8z.out.trans (hbn.mono H8z.out.size))
               have HLz := hide (HLz.out.trans (hbn.mono HLz.out.size))
               have HZz := hide (HZz.out.trans (hbn.mono HZz.out.size))
               clear hbn)
            | (go_at_call 27
               refine (RUnder_any cs _ la lb _ (HP5.out _ HBz.out) HLt.out HER.out.symm HIf.out HM22.out HLa.out).mono ?_
               rintro e wn ⟨rfl, hbn⟩
               have HBz := hide (HBz.out.trans (hbn.mono HBz.out.size))
               have H8z := hide (H8z.out.trans (hbn.mono H8z.out.size))
               have HLz := hide (HLz.out.trans (hbn.mono HLz.out.size))
               have HZz := hide (HZz.out.trans (hbn.mono HZz.out.size))
               clear hbn)
            | (go_at_call 24
               refine (RKinds_any cs _ la _ (HP5.out _ HBz.out) HLt.out HER.out.symm HIf.out HM22.out).mono ?_
               rintro e wn ⟨vk2, rfl, hok2, hbn⟩
               have HBz := hide (HBz.out.trans (hbn.mono HBz.out.size))
               have H8z := hide (H8z.out.trans (hbn.mono H8z.out.size))
               have HLz := hide (HLz.out.trans (hbn.mono HLz.out.size))
               have HZz := hide (HZz.out.trans (hbn.mono HZz.out.size))
               have HO2 := hide (hok2.row Ow.shp_str fun _ _ h => h)
               obtain ⟨qa2, qc2, rfl⟩ := hok2.shape
               clear hok2 hbn)
            | (go_at_call 23
               refine (Strings_eq (Hr.kindsQ cs la) (Hr.kindsQ cs la) _ _ _ (HOz.out.on HZz.out fun _ _ h => h) HO2.out (Nat.le_trans (Nat.le_of_eq HKn.out.symm) (Nat.le_trans HKl.out (by decide))) (Nat.le_trans (Nat.le_of_eq HKn.out.symm) (Nat.le_trans HKl.out (by decide)))).mono ?_
               intro e wn hpp
               have hbn := hpp.2
               obtain rfl := hpp.1.yes' rfl
               have HBz := hide (HBz.out.trans (hbn.mono HBz.out.size))
               have H8z := hide (H8z.out.trans (hbn.mono H8z.out.size))
               have HLz := hide (HLz.out.trans (hbn.mono HLz.out.size))
               clear hbn hpp)
            | (go_at_call 25
               refine (HWk.out _ HBz.out).mono ?_
               rintro e wn ⟨rfl, hbn⟩
               have HBz := hide (HBz.out.trans (hbn.mono HBz.out.size))
               have H8z := hide (H8z.out.trans (hbn.mono H8z.out.size))
               have HLz := hide (HLz.out.trans (hbn.mono HLz.out.size))
               clear hbn))
        all_goals
          go_wp2_with fail
          go_ret
          exact ⟨rfl, HW5.out _ HBz.out⟩

    | some s =>
      have HSS : Hid (Hr.superS x = s) := hide (by unfold Hr.superS; rw [hs]; rfl)
      have hse : (s == []) = false := by simp [Hr.superL_ne hs]
      rw [hs] at HSu
      simp only [Hr.pairS] at HSu
      clear hs
      go_wp2_with fail
      refine HFd.out.mono ?_
      rintro e w7 ⟨hfi, hb7⟩
      unfold Hr.FindIs at hfi
      rw [HLk.out] at hfi
      obtain ⟨x', ys, hx', rfl, hys⟩ := hfi
      rw [HXx.out] at hx'; cases hx'
      have hcx := hys.x
      obtain ⟨vp, vc, vk', rfl, p1, i1, k1, -⟩ := hys
      obtain ⟨va1, vd1, rfl⟩ := p1.shape
      obtain ⟨va2, vd2, rfl⟩ := i1.shape
      obtain ⟨va3, vd3, rfl⟩ := k1.shape
      clear p1 i1 k1
      simp only [clsXL, List.toArray] at hcx ⊢
      have HCX : Hid (ClsX (w7.alloc (.cells #[.string ⟨x.name.toArray⟩, .bool x.iface, .string ⟨x.super.toArray⟩, .slice va1 x.ifaces.length vd1, .slice va2 x.fields.length vd2, .slice va3 x.methods.length vd3] 33)) x [.string ⟨x.name.toArray⟩, .bool x.iface, .string ⟨x.super.toArray⟩, .slice va1 x.ifaces.length vd1, .slice va2 x.fields.length vd2, .slice va3 x.methods.length vd3]) := hide (hcx.on ((Below.refl _ _).alloc (Nat.le_refl _) _))
      clear hcx

      have hA8 : Below w5.heap.size w5 (w7.alloc (.cells #[.string ⟨x.name.toArray⟩, .bool x.iface, .string ⟨x.super.toArray⟩, .slice va1 x.ifaces.length vd1, .slice va2 x.fields.length vd2, .slice va3 x.methods.length vd3] 33)) := (HB6.out.trans (hb7.mono HB6.out.size)).alloc (HB6.out.trans (hb7.mono HB6.out.size)).size _
      have HB8 := hide hA8
      have HF8 := hide (heap_alloc_new w7 (.cells #[.string ⟨x.name.toArray⟩, .bool x.iface, .string ⟨x.super.toArray⟩, .slice va1 x.ifaces.length vd1, .slice va2 x.fields.length vd2, .slice va3 x.methods.length vd3] 33))
      have s8 := (HS.out _ hA8).2
      clear hA8 hb7 s6 HFd
      go_wp2_with fail
      generalize w7.alloc (.cells #[.string ⟨x.name.toArray⟩, .bool x.iface, .string ⟨x.super.toArray⟩, .slice va1 x.ifaces.length vd1, .slice va2 x.fields.length vd2, .slice va3 x.methods.length vd3] 33) = w8 at *
      refine (HSu.out w8 HB8.out).mono ?_
      rintro e w9 ⟨rfl, hb9⟩
      have HB9 := hide (HB8.out.trans (hb9.mono HB8.out.size))
      have H89 := hide hb9
      have s9 := (HS.out _ HB9.out).2
      clear hb9 s8 HSu
      go_wp2_with fail
      have HBz : Hid (Below w5.heap.size w5 w9.drew) := hide (HB9.out.trans ((Below.drew (Below.refl _ _)).mono HB9.out.size))
      have H8c : Hid (Below w8.heap.size w8 w9.drew) := hide (H89.out.trans ((Below.drew (Below.refl _ _)).mono H89.out.size))
      go_region_held3 (fun wz => wz.cell? ⟨w4.heap.size, 0, none⟩ = some (.slice ta n tc)) (exact (HS.out _ HBz.out).2)
        (first
          | (go_at_call 14
             refine (HUn.out _ HBz.out).mono ?_
             rintro e wn ⟨rfl, hbn⟩
             have HBz := hide (HBz.out.trans (hbn.mono HBz.out.size))
             have H8c := hide (H8c.out.trans (hbn.mono H8c.out.size))
             clear hbn)
          | (go_at_call 15
             refine (HKi.out _ HBz.out).mono ?_
             rintro e wk ⟨vk, rfl, hok, hbn⟩
             have HBz := hide (HBz.out.trans (hbn.mono HBz.out.size))
             have H8c := hide (H8c.out.trans (hbn.mono H8c.out.size))
             have HOk := hide (hok.row Ow.shp_str fun _ _ h => h)
             obtain ⟨ka, kc, rfl⟩ := hok.shape
             clear hok hbn))

      have HOz : Hid (RowX wk 1 StrX (.slice ka (Hr.kindsQ cs la).length kc) (Hr.kindsQ cs la)) := hide HOk.out
      have HZ := hide HBz.out
      have H8z : Hid (Below w8.heap.size w8 wk) := hide H8c.out
      clear HOk HBz H8c s9 HUn HKi
      generalize wk = wz at *
      obtain ⟨kn, hkn⟩ : ∃ q, q = (Hr.kindsQ cs la).length := ⟨_, rfl⟩
      have HKn := hide hkn
      rw [← hkn] at HOz HKl ⊢
      clear hkn
      have HBz : Hid (Below w5.heap.size w5 wz.drew) := hide (HZ.out.trans ((Below.drew (Below.refl _ _)).mono HZ.out.size))
      have HZz : Hid (Below wz.heap.size wz wz.drew) := hide (Below.drew (Below.refl _ _))
      go_wp2_with fail
      go_region_held3 (fun wy => wy.cell? ⟨w.heap.size, 0, none⟩ = some (.slice pa n pc) ∧ wy.cell? ⟨w4.heap.size, 0, none⟩ = some (.slice ta n tc)) (exact HS.out _ HBz.out)
        (first
          | (go_at_call 16
             refine (HCk.out _ HBz.out).mono ?_
             rintro e wn ⟨rfl, hbn⟩
             have HBz := hide (HBz.out.trans (hbn.mono HBz.out.size))
             have HZz := hide (HZz.out.trans (hbn.mono HZz.out.size))
             clear hbn)
          | (go_at_call 18
             refine (HAl.out _ HBz.out).mono ?_
             rintro e wn ⟨va, rfl, hoa, hbn⟩
             have HBz := hide (HBz.out.trans (hbn.mono HBz.out.size))
             have HZz := hide (HZz.out.trans (hbn.mono HZz.out.size))
             have HOa := hide (hoa.row (P' := ClsX wn) Ow.shp_cls fun _ _ h => h.x)
             obtain ⟨aa, ac, rfl⟩ := hoa.shape
             first
               | (have HOr := hide (HOr.out.on (P' := ClsX wn) hbn fun _ _ h => h.on hbn)
                  clear hoa hbn)
               | clear hoa hbn)
          | (go_at_call 19
             refine (HRl.out _ HBz.out).mono ?_
             rintro e wn ⟨vr, rfl, hor, hbn⟩
             have HBz := hide (HBz.out.trans (hbn.mono HBz.out.size))
             have HZz := hide (HZz.out.trans (hbn.mono HZz.out.size))
             have HOr := hide (hor.row (P' := ClsX wn) Ow.shp_cls fun _ _ h => h.x)
             obtain ⟨ra, rc, rfl⟩ := hor.shape
             first
               | (have HOa := hide (HOa.out.on (P' := ClsX wn) hbn fun _ _ h => h.on hbn)
                  clear hor hbn)
               | clear hor hbn)
          | (go_at_call 17
             refine (ClassesW_eq (Hr.allL cs) (Hr.allL cs) _ _ _ HOa.out HOr.out (Nat.le_trans HM22.out (by decide)) (Nat.le_trans HM22.out (by decide)) HLA.out HLA.out).mono ?_
             intro e wn hpp
             have hcl := hpp.1
             have hbn := hpp.2
             obtain rfl := hcl.yes' rfl
             have HBz := hide (HBz.out.trans (hbn.mono HBz.out.size))
             have HZz := hide (HZz.out.trans (hbn.mono HZz.out.size))
             clear hbn hcl hpp)
          | (go_at_call 20
             refine (HPe.out _ HBz.out).mono ?_
             intro e wn hpp
             have hcl := hpp.1
             have hbn := hpp.2
             obtain rfl := hcl.yes' rfl
             have HBz := hide (HBz.out.trans (hbn.mono HBz.out.size))
             have HZz := hide (HZz.out.trans (hbn.mono HZz.out.size))
             clear hbn hcl hpp))
      all_goals
        have sp := (HS.out _ HBz.out).1
        have HBy := hide HBz.out
        have HZy := hide HZz.out
        clear HOa HOr HBz HZz HAl HCk HPe
        go_wp2_with fail
        refine (HRl.out _ HBy.out).mono ?_
        rintro e wl ⟨vl, rfl, hol, hbl⟩
        have HBl := hide (HBy.out.trans (hbl.mono HBy.out.size))
        have HZl := hide (HZy.out.trans (hbl.mono HZy.out.size))
        have HRw : Hid (RowX wl 6 (ClsX wl) vl (Hr.allL cs)) := hide (hol.row Ow.shp_cls fun _ _ h => h.x)
        obtain ⟨l5, lc, rfl⟩ := hol.shape
        have HAt := hide (RAt_any (Hr.allL cs) _ la wl HRw.out (Nat.le_trans HM22.out (by decide)))
        clear hbl hol sp HRl
        go_wp2_with fail
        refine HAt.out.mono ?_
        rintro e wt ⟨rfl, hbt⟩
        have HBt := hide (HBl.out.trans (hbt.mono HBl.out.size))
        have HZt := hide (HZl.out.trans (hbt.mono HZl.out.size))
        have HLt2 := hide hbt
        have H8t := hide (H8z.out.trans (HZt.out.mono H8z.out.size))
        clear hbt HAt
        obtain ⟨g2, o2, eg2, ys2, hys2, hc2⟩ := Hr.row_at HRw.out HXx.out
        subst eg2
        have hkm : k < (Hr.allL cs).length := (List.getElem?_eq_some_iff.1 HXx.out).1
        obtain ⟨m, hm⟩ : ∃ q, q = (Hr.allL cs).length := ⟨_, rfl⟩
        have hm22 : m ≤ 22 := by rw [hm]; exact HM22.out
        rw [← hm] at hkm ⊢
        have hkm' : (k : Int) < (m : Int) := by omega
        have hm22' : (m : Int) ≤ 22 := by omega
        have HY2 := hide hys2
        have HC2 := hide hc2
        have HRs := hide (RSuper_any x ys2 wt (hys2.on HLt2.out))
        rw [HSS.out] at HRs
        obtain ⟨b1, d1, b2, d2, b3, d3, rfl⟩ := Hr.at_c hys2
        have r0 := hc2 wt HLt2.out 0 _ rfl
        have r1 := hc2 wt HLt2.out 1 _ rfl
        have r2 := hc2 wt HLt2.out 2 _ rfl
        have r3 := hc2 wt HLt2.out 3 _ rfl
        have r4 := hc2 wt HLt2.out 4 _ rfl
        have r5 := hc2 wt HLt2.out 5 _ rfl
        rw [Nat.add_zero] at r0
        rw [HPk.out]
        simp only [Hr.placeI]
        clear hm hys2 hc2 HRw
        go_wp2_with fail
        refine HRs.out.mono ?_
        rintro e wr ⟨rfl, hbr⟩
        have HBr := hide (HBt.out.trans (hbr.mono HBt.out.size))
        have HLr := hide (HLt2.out.trans (hbr.mono HLt2.out.size))
        have H8r := hide (H8t.out.trans (hbr.mono H8t.out.size))
        have HZr := hide (HZt.out.trans (hbr.mono HZt.out.size))
        clear hbr r0 r1 r2 r3 r4 r5 HRs
        have ZS : Hid (∀ wx, Below w5.heap.size w5 wx → Below w8.heap.size w8 wx → Below wl.heap.size wl wx → (wx.cell? ⟨w.heap.size, 0, none⟩ = some (.slice pa n pc) ∧ wx.cell? ⟨w7.heap.size, 0, none⟩ = some (.string ⟨x.name.toArray⟩) ∧ wx.cell? ⟨w7.heap.size, 1, none⟩ = some (.bool x.iface) ∧ wx.cell? ⟨w7.heap.size, 2, none⟩ = some (.string ⟨x.super.toArray⟩) ∧ wx.cell? ⟨w7.heap.size, 3, none⟩ = some (.slice va1 x.ifaces.length vd1) ∧ wx.cell? ⟨w7.heap.size, 4, none⟩ = some (.slice va2 x.fields.length vd2) ∧ wx.cell? ⟨w7.heap.size, 5, none⟩ = some (.slice va3 x.methods.length vd3)) ∧ (wx.cell? ⟨g2, o2 + k * 6, none⟩ = some (.string ⟨x.name.toArray⟩) ∧ wx.cell? ⟨g2, o2 + k * 6 + 1, none⟩ = some (.bool x.iface) ∧ wx.cell? ⟨g2, o2 + k * 6 + 2, none⟩ = some (.string ⟨x.super.toArray⟩) ∧ wx.cell? ⟨g2, o2 + k * 6 + 3, none⟩ = some (.slice b1 x.ifaces.length d1) ∧ wx.cell? ⟨g2, o2 + k * 6 + 4, none⟩ = some (.slice b2 x.fields.length d2) ∧ wx.cell? ⟨g2, o2 + k * 6 + 5, none⟩ = some (.slice b3 x.methods.length d3))) := hide fun wx h5 h8 hl => by
          have hF := (h8.block _ (Ow.lt_of_blk HF8.out)).trans HF8.out
          exact ⟨⟨(HS.out _ h5).1, cell_box hF 0, cell_box hF 1, cell_box hF 2, cell_box hF 3, cell_box hF 4, cell_box hF 5⟩, HC2.out wx hl 0 _ rfl, HC2.out wx hl 1 _ rfl, HC2.out wx hl 2 _ rfl, HC2.out wx hl 3 _ rfl, HC2.out wx hl 4 _ rfl, HC2.out wx hl 5 _ rfl⟩
        have hDr : Below wr.heap.size wr wr.drew := Below.drew (Below.refl _ _)
        have HBz := hide (HBr.out.trans (hDr.mono HBr.out.size))
        have H8z := hide (H8r.out.trans (hDr.mono H8r.out.size))
        have HLz := hide (HLr.out.trans (hDr.mono HLr.out.size))
        have HZz := hide (HZr.out.trans (hDr.mono HZr.out.size))
        have HCl : Hid (∀ wx, Below w8.heap.size w8 wx → Below wl.heap.size wl wx → Calls Tryd.prog 22 #[.agg #[.string ⟨x.name.toArray⟩, .bool x.iface, .string ⟨x.super.toArray⟩, .slice va1 x.ifaces.length vd1, .slice va2 x.fields.length vd2, .slice va3 x.methods.length vd3], .agg #[.string ⟨x.name.toArray⟩, .bool x.iface, .string ⟨x.super.toArray⟩, .slice b1 x.ifaces.length d1, .slice b2 x.fields.length d2, .slice b3 x.methods.length d3]] wx fun e w' => e = .returned (.bool true) ∧ Below wx.heap.size wx w') := hide fun wx h8 hl => by
          refine (Class_eq x x _ _ wx (HCX.out.on h8) (HY2.out.on hl) HLx.out HLx.out).mono ?_
          intro e w' hpp
          exact ⟨hpp.1.yes' rfl, hpp.2⟩
        clear hDr HS
        go_wp2_with fail
        go_region_held3 (fun wx => (wx.cell? ⟨w.heap.size, 0, none⟩ = some (.slice pa n pc) ∧ wx.cell? ⟨w7.heap.size, 0, none⟩ = some (.string ⟨x.name.toArray⟩) ∧ wx.cell? ⟨w7.heap.size, 1, none⟩ = some (.bool x.iface) ∧ wx.cell? ⟨w7.heap.size, 2, none⟩ = some (.string ⟨x.super.toArray⟩) ∧ wx.cell? ⟨w7.heap.size, 3, none⟩ = some (.slice va1 x.ifaces.length vd1) ∧ wx.cell? ⟨w7.heap.size, 4, none⟩ = some (.slice va2 x.fields.length vd2) ∧ wx.cell? ⟨w7.heap.size, 5, none⟩ = some (.slice va3 x.methods.length vd3)) ∧ (wx.cell? ⟨g2, o2 + k * 6, none⟩ = some (.string ⟨x.name.toArray⟩) ∧ wx.cell? ⟨g2, o2 + k * 6 + 1, none⟩ = some (.bool x.iface) ∧ wx.cell? ⟨g2, o2 + k * 6 + 2, none⟩ = some (.string ⟨x.super.toArray⟩) ∧ wx.cell? ⟨g2, o2 + k * 6 + 3, none⟩ = some (.slice b1 x.ifaces.length d1) ∧ wx.cell? ⟨g2, o2 + k * 6 + 4, none⟩ = some (.slice b2 x.fields.length d2) ∧ wx.cell? ⟨g2, o2 + k * 6 + 5, none⟩ = some (.slice b3 x.methods.length d3))) (exact ZS.out _ HBz.out H8z.out HLz.out)
          (first
            | (go_at_call 22
               refine (HCl.out _ H8z.out HLz.out).mono ?_
               rintro e wn ⟨rfl, hbn⟩
               have HBz := hide (HBz.out.trans (hbn.mono HBz.out.size))
               have H8z := hide (H8z.out.trans (hbn.mono H8z.out.size))
               have HLz := hide (HLz.out.trans (hbn.mono HLz.out.size))
               have HZz := hide (HZz.out.trans (hbn.mono HZz.out.size))
               clear hbn)
            | (go_at_call 27
               refine (RUnder_any cs _ la lb _ (HP5.out _ HBz.out) HLt.out HER.out.symm HIf.out HM22.out HLa.out).mono ?_
               rintro e wn ⟨rfl, hbn⟩
               have HBz := hide (HBz.out.trans (hbn.mono HBz.out.size))
               have H8z := hide (H8z.out.trans (hbn.mono H8z.out.size))
               have HLz := hide (HLz.out.trans (hbn.mono HLz.out.size))
               have HZz := hide (HZz.out.trans (hbn.mono HZz.out.size))
               clear hbn)
            | (go_at_call 24
               refine (RKinds_any cs _ la _ (HP5.out _ HBz.out) HLt.out HER.out.symm HIf.out HM22.out).mono ?_
               rintro e wn ⟨vk2, rfl, hok2, hbn⟩
               have HBz := hide (HBz.out.trans (hbn.mono HBz.out.size))
               have H8z := hide (H8z.out.trans (hbn.mono H8z.out.size))
               have HLz := hide (HLz.out.trans (hbn.mono HLz.out.size))
               have HZz := hide (HZz.out.trans (hbn.mono HZz.out.size))
               have HO2 := hide (hok2.row Ow.shp_str fun _ _ h => h)
               obtain ⟨qa2, qc2, rfl⟩ := hok2.shape
               clear hok2 hbn)
            | (go_at_call 23
               refine (Strings_eq (Hr.kindsQ cs la) (Hr.kindsQ cs la) _ _ _ (HOz.out.on HZz.out fun _ _ h => h) HO2.out (Nat.le_trans (Nat.le_of_eq HKn.out.symm) (Nat.le_trans HKl.out (by decide))) (Nat.le_trans (Nat.le_of_eq HKn.out.symm) (Nat.le_trans HKl.out (by decide)))).mono ?_
               intro e wn hpp
               have hbn := hpp.2
               obtain rfl := hpp.1.yes' rfl
               have HBz := hide (HBz.out.trans (hbn.mono HBz.out.size))
               have H8z := hide (H8z.out.trans (hbn.mono H8z.out.size))
               have HLz := hide (HLz.out.trans (hbn.mono HLz.out.size))
               clear hbn hpp)
            | (go_at_call 25
               refine (HWk.out _ HBz.out).mono ?_
               rintro e wn ⟨rfl, hbn⟩
               have HBz := hide (HBz.out.trans (hbn.mono HBz.out.size))
               have H8z := hide (H8z.out.trans (hbn.mono H8z.out.size))
               have HLz := hide (HLz.out.trans (hbn.mono HLz.out.size))
               clear hbn))
        all_goals
          go_wp2_with fail
          go_ret
          exact ⟨rfl, HW5.out _ HBz.out⟩
end Go.Proofs.YtildjihgklgibaaDoor

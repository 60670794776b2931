/- ParseCut: the walk: a program's words, cut off. -/
import Derived.Test.YtpngpkbnhepleaaDoorRowB
import Derived.Test.YtpngpkbnhepleaaDoorPpCut2
import Derived.Deep.RegionHeld
namespace Go.Proofs.YtpngpkbnhepleaaDoor
open Go.RowKit
set_option linter.unusedVariables false
set_option linter.unusedSimpArgs false

theorem mod_len (n : Int) (c : Nat) (hc : 0 < c) (hc2 : c ≤ 100000) : ∃ m : Nat, m < c ∧ wrap64 ((IntKind.u64.wrap n).tmod (c : Int)) = (m : Int) := by
  have h0 : 0 ≤ IntKind.u64.wrap n := by
    rw [IntKind.wrap_u64]; omega
  generalize IntKind.u64.wrap n = u at h0
  have h1 : 0 ≤ u.tmod (c : Int) := Int.tmod_nonneg _ h0
  have h2 : u.tmod (c : Int) < (c : Int) := Int.tmod_lt_of_pos _ (by omega)
  generalize u.tmod (c : Int) = r at h1 h2
  refine ⟨r.toNat, by omega, ?_⟩
  unfold wrap64; omega
namespace Lx
def lens : List Tok → Nat
  | [] => 0
  | t :: r => (tokW t).length + lens r
theorem lens_take : ∀ (l : List Tok) (k : Nat), lens (l.take k) ≤ lens l
  | [], k => by simp [lens]
  | t :: r, 0 => by simp [lens]
  | t :: r, k + 1 => by have := lens_take r k; simp only [List.take_succ_cons, lens]; omega
theorem placed_sum (bs : List UInt8) : ∀ (l : List Tok) (p : Nat), Placed bs p l → l ≠ [] → p + lens l ≤ bs.length
  | [], p, h, hne => absurd rfl hne
  | t :: r, p, ⟨h1, h2, h3, h4, h5, h6⟩, hne => by
    by_cases hr : r = []
    · subst hr; simp only [lens]; omega
    · have := placed_sum bs r _ h6 hr
      simp only [lens]; omega
theorem placed_count (bs : List UInt8) : ∀ (l : List Tok) (p : Nat), Placed bs p l → l.length ≤ lens l
  | [], p, h => by simp
  | t :: r, p, ⟨h1, h2, h3, h4, h5, h6⟩ => by
    have := placed_count bs r _ h6
    have h7 : 0 < (tokW t).length := List.length_pos_iff.2 h3
    simp only [lens, List.length_cons]; omega
theorem join_lens : ∀ (l : List Tok) (f : Bool) (acc r : List UInt8), (∀ t ∈ l, ValidT t) → joinGo (l.map toA) f acc = some r → r.length ≤ acc.length + lens l + l.length
  | [], f, acc, r, hv, h => by simp [joinGo] at h; subst h; simp [lens]
  | t :: l, f, acc, r, hv, h => by
    rw [List.map_cons, joinGo, wordA_valid t (hv t (by simp))] at h
    simp only at h
    have := join_lens l _ _ _ (fun x hx => hv x (by simp [hx])) h
    cases f
    · simp at this; simp only [lens, List.length_cons]; omega
    · simp at this; simp only [lens, List.length_cons]; omega
theorem join_short {bs : List UInt8} {l : List Tok} (hsc : scanL bs = (l, 0, 0)) (hn : bs.length ≤ 3000) {k : Nat} {jb : List UInt8} (hv : ∀ t ∈ l, ValidT t) (hj : joinL ((l.take k).map toA) = some jb) : jb.length ≤ 6000 := by
  have h1 := join_lens (l.take k) true [] jb (fun t ht => hv t (List.mem_of_mem_take ht)) hj
  have h2 := lens_take l k
  have h5 : (l.take k).length ≤ l.length := by rw [List.length_take]; omega
  rcases scanL_placed bs (by omega) l 0 0 hsc with ⟨_, _, h⟩ | ⟨h, _⟩
  · have h3 := placed_count bs l 0 h
    by_cases hl : l = []
    · rw [hl, List.take_nil] at h1
      simp [lens] at h1; rw [h1]; simp
    · have h4 := placed_sum bs l 0 h hl
      simp at h1; omega
  · cases h
end Lx

/-- The words' beginning, joined: what Program makes of it. -/
theorem cut_facts {bs : List UInt8} {l : List Lx.Tok} {cs : List Pp.Cls} (hsc : Lx.scanL bs = (l, 0, 0)) (hp : (Pp.program bs).2.2 = 0) (hc : (Pp.program bs).1 = cs) {k : Nat} (hk : k < l.length) {jb : List UInt8} (hj : Lx.joinL ((l.take k).map Lx.toA) = some jb) (hn : jb.length ≤ 6000) :
    ((Pp.program jb).2.2 = 0 ∧ (Pp.program jb).1.length < cs.length ∧ (Pp.program jb).1 = cs.take (Pp.program jb).1.length) ∨ ((Pp.program jb).2.2 = 4 ∧ (Pp.program jb).2.1 = jb.length ∧ (Pp.program jb).1 = []) := by
  obtain ⟨l', hl', hm'⟩ := Lx.scanL_joined _ jb hj hn
  rw [Lx.bare_toA] at hm'
  have hw := Lx.bare_wd hm'
  have hlen : l'.length = (l.take k).length := by have := congrArg List.length hw; simpa using this
  have hlk : (l.take k).length = k := by rw [List.length_take]; omega
  obtain ⟨cs2, z, hr⟩ : ∃ cs2 z, Pp.progP.run (l.map Pp.wd) ⟨0, 0⟩ = (cs2, z) := ⟨_, _, rfl⟩
  have e1 : Pp.program bs = if z.e = 0 then (cs2, 0, 0) else ([], Pp.place l (if (0 : Nat) = 0 then bs.length else 0) z.i, z.e) := by
    have hr' : Pp.progP.run (l.map Pp.wd) ⟨0, ((0 : Nat) : Int)⟩ = (cs2, z) := hr
    simp only [Pp.program, hsc, hr']
  have hz : z.e = 0 := by
    by_cases h0 : z.e = 0
    · exact h0
    · rw [e1, if_neg h0] at hp; exact absurd hp h0
  rw [e1, if_pos hz] at hc
  have hc' : cs2 = cs := hc
  subst hc'
  have e2 : Pp.program jb = if (Pp.progP.run ((l.take k).map Pp.wd) ⟨0, 0⟩).2.e = 0 then ((Pp.progP.run ((l.take k).map Pp.wd) ⟨0, 0⟩).1, 0, 0) else ([], Pp.place l' jb.length (Pp.progP.run ((l.take k).map Pp.wd) ⟨0, 0⟩).2.i, (Pp.progP.run ((l.take k).map Pp.wd) ⟨0, 0⟩).2.e) := by
    simp only [Pp.program, hl', hw]
    rfl
  have hcut := Pp.program_cut (l.map Pp.wd) cs2 z k (by simpa using hk) hr hz
  rw [← List.map_take] at hcut
  rcases hcut with ⟨c1, rest, c2, c3⟩ | ⟨c1, c2⟩
  · left
    rw [e2, if_pos c1]
    refine ⟨rfl, ?_, ?_⟩
    · have := List.length_pos_iff.2 c2
      rw [c3]
      simp only [List.length_append]
      omega
    · rw [c3, List.take_left]
  · right
    rw [e2, if_neg (by rw [c1]; decide)]
    refine ⟨c1, ?_, rfl⟩
    rw [c2]
    unfold Pp.place
    rw [List.getElem?_eq_none (by omega)]

set_option maxHeartbeats 1000000 in
theorem cut_long (a : Option Addr) (n c : Nat) (x : Int) (hm : n ≤ maxLen) (h : 3000 < n) (w : World) :
    Calls Tryd.prog 6 #[.slice a n c, .int .i64 x] w fun e w' => e = .returned (.bool true) ∧ Below w.heap.size w w' := by
  unfold maxLen at hm
  go_enter Tryd.func6, Tryd.ntmps6
  go_wp2_with fail
  go_ret
  exact ⟨rfl, Below.refl _ _⟩

theorem Join_take {w : World} {base : Nat} {va : Option Addr} {n vc : Nat} {l : List Lx.Tok} {jb : List UInt8} {k : Nat} (hv : ∀ t ∈ l, Lx.ValidT t) (h6 : l.length ≤ 6000) (hk : k < l.length) (hj : Lx.joinL ((l.take k).map Lx.toA) = some jb) (ho : w.ownsRow base 77 4 (.slice va n vc) l.length (toksCells l)) (ht : Tab w) :
    Calls Tryd.prog 22 #[.slice va k vc] w fun e w' => ∃ v, e = .returned (.tuple #[v, .int .i64 0]) ∧ w'.ownsRow w.heap.size 5 1 v jb.length (jb.map byteV) ∧ Below w.heap.size w w' := by
  by_cases hk0 : k = 0
  · subst hk0
    have e : jb = [] := by simpa [Lx.joinL, Lx.joinGo] using hj.symm
    subst e
    refine (Join_empty va vc w).mono ?_
    rintro e w' ⟨rfl, rfl⟩
    exact ⟨_, rfl, World.ownsRow_nil _ _ _ _, Below.refl _ _⟩
  · obtain ⟨g, cap, hvv, _, hg, hnc, _, hc⟩ := own_some ho (by omega)
    injection hvv with h1 h2 h3
    subst h1; subst h3
    have hlk : (l.take k).length = k := by rw [List.length_take]; omega
    have hA : ToksAt w g 0 ((l.take k).map Lx.toA) := by
      intro j t hj
      rw [List.getElem?_map, Option.map_eq_some_iff] at hj
      obtain ⟨x, hx, rfl⟩ := hj
      have hx' : l[j]? = some x := by
        rw [List.getElem?_take] at hx
        split at hx
        · exact hx
        · cases hx
      have hcc : ∀ c u, c < 4 → (tokCells x)[c]? = some u → w.cell? ⟨g, j * 4 + c, none⟩ = some u := fun c u h1 h2 => hc _ _ (by rw [toksCells_get l j c x hx' h1]; exact h2)
      rw [Nat.zero_add]
      exact ⟨hcc 0 _ (by omega) rfl, hcc 1 _ (by omega) rfl, hcc 2 _ (by omega) rfl, hcc 3 _ (by omega) rfl⟩
    have h := Join_any ((l.take k).map Lx.toA) g 0 vc w (by rw [List.length_map]; omega) (by rw [List.length_map]; omega) hg ht hA (fun t ht => by
      obtain ⟨x, hx, rfl⟩ := List.mem_map.1 ht
      show x.text.length ≤ maxLen
      rcases hv x (List.mem_of_mem_take hx) with ⟨h1, h2, h3⟩ | ⟨h1, h2, h3⟩ | ⟨h1, h2, h3, h4⟩
      · have := Lx.nameL_len _ h2; unfold maxLen; omega
      · have := Lx.signL_len _ h2; unfold maxLen; omega
      · rw [h2]; unfold maxLen; simp)
    rw [hj, List.length_map, hlk] at h
    exact h

set_option maxRecDepth 100000 in
set_option maxHeartbeats 8000000 in
theorem cut_walk (a : Option Addr) (n c : Nat) (x : Int) (bs : List UInt8) (w : World) (hr : RowB w a n c bs) (hn : n ≤ 3000) (ht : TabS w) (htab : Tab w) :
    Calls Tryd.prog 6 #[.slice a n c, .int .i64 x] w fun e w' => e = .returned (.bool true) ∧ Below w.heap.size w w' := by
  have hmx : n ≤ maxLen := by unfold maxLen; omega
  have HT := hide ht
  have HTB := hide htab
  have HR := hide hr
  have hnb := hr.len
  have hP := hide (Program_row hr hmx ht)
  clear hr ht htab
  have hfacts := Lx.scanL_facts bs
  have hcount := Lx.scanL_count bs
  have HV := hide (Lx.scanL_valid bs)
  obtain ⟨l, p1, q1, hsc⟩ : ∃ l p q, Lx.scanL bs = (l, p, q) := ⟨_, _, _, rfl⟩
  rw [hsc] at hfacts hcount HV
  simp only at hfacts hcount HV
  have HSC := hide hsc
  have HF := hide hfacts
  obtain ⟨cs, hcs⟩ : ∃ cs, (Pp.program bs).1 = cs := ⟨_, rfl⟩
  obtain ⟨er, her⟩ : ∃ er, (Pp.program bs).2.2 = er := ⟨_, rfl⟩
  have HOK := hide (Pp.program_ok bs)
  rw [hcs] at hP HOK
  rw [her] at hP
  have HCS := hide hcs
  have HER := hide her
  clear hcs her hfacts
  generalize (Pp.program bs).2.1 = pl at hP
  go_enter Tryd.func6, Tryd.ntmps6
  go_wp2_with fail
  refine hP.out.mono ?_
  clear hP
  rintro e w1 ⟨v1, rfl, hp1, hb1⟩
  obtain ⟨a1, c1, rfl, hcap1⟩ := RowP.len hp1
  have HB1 := hide hb1
  have hS := hide (scans_row HR.out hmx (w1.alloc (.cells #[.slice a1 cs.length c1] 26)) (hb1.alloc hb1.size _))
  rw [hsc] at hS
  simp only at hS
  have HP1 := hide hp1
  clear hp1 hb1 hsc
  go_wp2_with fail
  refine hS.out.mono ?_
  clear hS
  rintro e w2 ⟨vw, rfl, ho2, hb2⟩
  obtain ⟨va, vc, rfl⟩ := own_shape ho2
  have hsz : w1.heap.size < w2.heap.size := by have := hb2.size; simp at this; omega
  have kc : w2.cell? ⟨w1.heap.size, 0, none⟩ = some (.slice a1 cs.length c1) := by
    rw [hb2.cell (by simp)]
    exact cell_box (heap_alloc_new w1 _) 0
  have hB12 : Below w1.heap.size w1 w2 := ((Below.refl _ _).alloc (Nat.le_refl _) _).trans (hb2.mono (by simp))
  have HP2 := hide (ProgP.on HP1.out hB12)
  have HB2 := hide (HB1.out.trans (hB12.mono HB1.out.size))
  have HO2 := hide ho2
  clear ho2 hb2 hB12 HP1 HB1
  have hgo : er = 0 ∧ (q1 : Int) = 0 ∧ l ≠ [] ∨ (er ≠ 0 ∨ (er = 0 ∧ (q1 : Int) ≠ 0) ∨ (er = 0 ∧ (q1 : Int) = 0 ∧ l = [])) := by
    by_cases g1 : er = 0
    · by_cases g2 : (q1 : Int) = 0
      · by_cases g3 : l = []
        · exact .inr (.inr (.inr ⟨g1, g2, g3⟩))
        · exact .inl ⟨g1, g2, g3⟩
      · exact .inr (.inr (.inl ⟨g1, g2⟩))
    · exact .inr (.inl g1)
  rcases hgo with ⟨g1, g2, g3⟩ | g1 | ⟨g1, g2⟩ | ⟨g1, g2, g3⟩
  · subst g1
    have g2' : q1 = 0 := by omega
    subst g2'
    obtain rfl : p1 = 0 := HF.out.2.1 rfl
    have hl0 : 0 < l.length := List.length_pos_iff.2 g3
    have hl0' : ((l.length : Int) == 0) = false := by simp; omega
    obtain ⟨k, hk, hkx⟩ := mod_len x l.length hl0 (by omega)
    obtain ⟨jb, hjb⟩ := Lx.joinL_scan (l.take k) (fun t ht => HV.out t (List.mem_of_mem_take ht))
    have hj := hide (Join_take HV.out HF.out.1 hk hjb HO2.out (HTB.out.on HB2.out))
    have hjl : jb.length ≤ 132000 := by
      have h1 := Lx.joinGo_len _ _ _ _ hjb
      have h2 := HF.out.1
      simp at h1; omega
    have HJB := hide hjb
    clear hjb
    have hnc : l.length ≤ vc := by
      obtain ⟨g, cap, hv, _, _, hnc, _⟩ := own_some HO2.out hl0
      injection hv with h1 h2 h3
      subst h3; exact hnc
    have hkl : (k : Int) ≤ (vc : Int) := by omega
    go_wp2_with fail
    refine hj.out.mono ?_
    clear hj
    rintro e w3 ⟨v3, rfl, ho3, hb3⟩
    obtain ⟨a3, c3, rfl, hr3⟩ := own_rowB ho3
    have HR3 := hide hr3
    have kc3 : w3.cell? ⟨w1.heap.size, 0, none⟩ = some (.slice a1 cs.length c1) := (hb3.cell (by exact hsz)).trans kc
    have hsz3 : w1.heap.size < w3.heap.size := Nat.lt_of_lt_of_le hsz hb3.size
    have HP3 := hide (ProgP.on HP2.out hb3)
    have HB3 := hide (HB2.out.trans (hb3.mono HB2.out.size))
    clear ho3 hr3 hb3 kc hsz HP2 HB2 HO2
    have hj6 := Lx.join_short HSC.out (by omega) HV.out HJB.out
    have hcf := cut_facts HSC.out HER.out HCS.out hk HJB.out hj6
    have P2 := hide (Program_row HR3.out (show jb.length ≤ maxLen by unfold maxLen; omega) (HT.out.below HB3.out))
    generalize (Pp.program jb).1 = qs at *
    generalize (Pp.program jb).2.2 = er2 at *
    generalize (Pp.program jb).2.1 = n2 at *
    have HCF := hide hcf
    clear hcf HR3 HJB
    go_wp2_with fail
    refine P2.out.mono ?_
    clear P2
    rintro e w4 ⟨v4, rfl, hp4, hb4⟩
    obtain ⟨a4, c4, rfl, hcap4⟩ := RowP.len hp4
    have kc4 : w4.cell? ⟨w1.heap.size, 0, none⟩ = some (.slice a1 cs.length c1) := (hb4.cell (by exact hsz3)).trans kc3
    have hsz4 : w1.heap.size < w4.heap.size := Nat.lt_of_lt_of_le hsz3 hb4.size
    have HP4 := hide (ProgP.on HP3.out hb4)
    have HQ4 := hide hp4
    have HB4 := hide (HB3.out.trans (hb4.mono HB3.out.size))
    clear hp4 hb4 kc3 hsz3 HP3 HB3
    rcases HCF.out with ⟨rfl, e2, e3⟩ | ⟨rfl, rfl, rfl⟩
    · clear HCF
      have E3 := hide e3
      clear e3
      go_wp2_with fail
      have kc5 : (w4.alloc (.cells #[.slice a4 qs.length c4] 26)).cell? ⟨w4.heap.size, 0, none⟩ = some (.slice a4 qs.length c4) := cell_box (heap_alloc_new w4 _) 0
      have kc6 : (w4.alloc (.cells #[.slice a4 qs.length c4] 26)).cell? ⟨w1.heap.size, 0, none⟩ = some (.slice a1 cs.length c1) := (((Below.refl w4.heap.size w4).alloc (Nat.le_refl _) _).cell (by exact hsz4)).trans kc4
      have HW5 := hide ((HB4.out.alloc HB4.out.size (.cells #[.slice a4 qs.length c4] 26)))
      have HC5 : Hid (∀ wx, Below (w4.alloc (.cells #[.slice a4 qs.length c4] 26)).heap.size (w4.alloc (.cells #[.slice a4 qs.length c4] 26)) wx → Calls Tryd.prog 24 #[.slice a4 qs.length c4, .slice a1 qs.length c1] wx fun e w'' => e = .returned (.bool true) ∧ Below wx.heap.size wx w'') := hide (by
        intro wx hx
        have hA : Below w4.heap.size w4 wx := ((Below.refl _ _).alloc (Nat.le_refl _) _).trans (hx.mono (by simp))
        have t1 := RowP.take (ProgP.on HP4.out hA) qs.length (by omega)
        rw [← E3.out] at t1
        have hq := ProgP.on HQ4.out hA
        have hs := short_of_ok HOK.out
        refine Classes_same qs _ _ wx (by have := hs.1; omega) (fun c hc => hs.2 c ?_) hq t1
        rw [E3.out] at hc
        exact List.mem_of_mem_take hc)
      have hlt : (qs.length : Int) < (cs.length : Int) := by omega
      have hcs10 : cs.length ≤ 10 := HOK.out.1
      have hle : qs.length ≤ c1 := by omega
      generalize hwz : w4.alloc (.cells #[.slice a4 qs.length c4] 26) = wz at *
      have hszz : w4.heap.size < wz.heap.size := by rw [← hwz]; simp
      have hszy : w1.heap.size < wz.heap.size := by omega
      clear hwz
      have hsl : (qs.length : Int) ≤ (c1 : Int) := by omega
      clear hcs10 hcap1 hcap4 e2 kc4 hsz4 hjl hj6
      have HT5 := hide (HT.out.below HW5.out)
      have hK : Hid (∀ wx, Below wz.heap.size wz wx → wx.cell? ⟨w4.heap.size, 0, none⟩ = some (.slice a4 qs.length c4) ∧ wx.cell? ⟨w1.heap.size, 0, none⟩ = some (.slice a1 cs.length c1)) := hide fun wx hx => ⟨(hx.cell (by exact hszz)).trans kc5, (hx.cell (by exact hszy)).trans kc6⟩
      have hD : Hid (Below wz.heap.size wz wz.drew) := hide ⟨rfl, rfl, rfl, Nat.le_refl _, fun _ _ => rfl⟩
      clear kc5 kc6
      go_region_held (fun wx => wx.cell? ⟨w4.heap.size, 0, none⟩ = some (.slice a4 qs.length c4) ∧ wx.cell? ⟨w1.heap.size, 0, none⟩ = some (.slice a1 cs.length c1)) (first | exact hK.out _ HB7.out | exact hK.out _ HB6.out | exact hK.out _ hD.out)
        (first | (go_at_call 24; refine (HC5.out _ hD.out).mono ?_; rintro e w6 ⟨rfl, hb6⟩; have HB6 : Hid (Below wz.heap.size wz w6) := hide (hD.out.trans (hb6.mono hD.out.size)); clear hb6) | (go_at_call 20; refine (wakes_any _ (HT5.out.below HB6.out)).mono ?_; rintro e w7 ⟨rfl, hb7⟩; have HB7 : Hid (Below wz.heap.size wz w7) := hide (HB6.out.trans (hb7.mono HB6.out.size)); clear hb7))
      all_goals go_wp2_with fail
      all_goals go_ret
      all_goals exact ⟨rfl, HW5.out.trans (HB7.out.mono HW5.out.size)⟩
    · clear HCF
      go_wp2_with fail
      refine (wakes_any _ (HT.out.below (HB4.out.alloc HB4.out.size _))).mono ?_
      rintro e w5 ⟨rfl, hb5⟩
      go_wp2_with fail
      go_ret
      have hx := HB4.out.alloc HB4.out.size (.cells #[.slice a4 0 c4] 26)
      exact ⟨rfl, hx.trans (hb5.mono hx.size)⟩
  · have g1' : (er != 0) = true := by simpa using g1
    go_wp2_with fail
    refine (wakes_any _ (HT.out.below HB2.out)).mono ?_
    rintro e w5 ⟨rfl, hb5⟩
    go_wp2_with fail
    go_ret
    exact ⟨rfl, HB2.out.trans (hb5.mono HB2.out.size)⟩
  · subst g1
    have g2' : ((q1 : Int) != 0) = true := by simpa using g2
    go_wp2_with fail
    refine (wakes_any _ (HT.out.below HB2.out)).mono ?_
    rintro e w5 ⟨rfl, hb5⟩
    go_wp2_with fail
    go_ret
    exact ⟨rfl, HB2.out.trans (hb5.mono HB2.out.size)⟩
  · subst g1
    have g2' : q1 = 0 := by omega
    subst g2' g3
    go_wp2_with fail
    refine (wakes_any _ (HT.out.below HB2.out)).mono ?_
    rintro e w5 ⟨rfl, hb5⟩
    go_wp2_with fail
    go_ret
    exact ⟨rfl, HB2.out.trans (hb5.mono HB2.out.size)⟩

end Go.Proofs.YtpngpkbnhepleaaDoor

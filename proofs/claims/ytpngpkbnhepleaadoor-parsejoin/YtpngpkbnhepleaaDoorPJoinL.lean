/- ParseJoin: the walk: two programs' texts, one behind the other. -/
import Derived.Test.YtpngpkbnhepleaaDoorRowB
import Derived.Test.YtpngpkbnhepleaaDoorMgA
import Derived.Test.YtpngpkbnhepleaaDoorWakes2
import Derived.Test.YtpngpkbnhepleaaDoorSameA
import Derived.Test.YtpngpkbnhepleaaDoorTwinD
import Derived.Test.YtpngpkbnhepleaaDoorXofP
import Derived.Deep.RegionHeld3
namespace Go.Proofs.YtpngpkbnhepleaaDoor
open Go.RowKit
set_option linter.unusedVariables false
set_option linter.unusedSimpArgs false

theorem i_u8 : (Tryd.prog.info? 5).map (fun i => (i.zero.map (fun z => z.cells.size), i.size, i.bytes)) = some (some 1, 1, 1) := by kernel_rfl
def ByP (x : UInt8) (ys : List Value) : Prop := ys = [byteV x]
theorem shp_by : Ow.Shp ByP 1 := by rintro x ys rfl; exact ⟨rfl, by intro u hu; simp [byteV] at hu; subst hu; rfl⟩
theorem RowB.x {w : World} {a : Option Addr} {n c : Nat} {bs : List UInt8} (h : RowB w a n c bs) : RowX w 1 ByP (.slice a n c) bs := by
  rcases h with ⟨rfl, rfl, rfl, rfl⟩ | ⟨x, rfl, h1, h2, h3⟩
  · exact ⟨none, 0, rfl, Nat.le_refl _, .inl rfl⟩
  · subst h2
    refine ⟨_, c, rfl, h1, ?_⟩
    rcases h3 with h3 | ⟨b, off, rfl, hlt, hc⟩
    · exact .inl (List.eq_nil_of_length_eq_zero h3)
    · refine .inr ⟨b, off, rfl, hlt, fun k x hk => ⟨[byteV x], rfl, fun j u hj => ?_⟩⟩
      have hl : k < bs.length := by
        rcases Nat.lt_or_ge k bs.length with h | h
        · exact h
        · rw [List.getElem?_eq_none h] at hk; cases hk
      have hj0 : j = 0 := by
        rcases Nat.eq_zero_or_pos j with h | h
        · exact h
        · rw [List.getElem?_eq_none (by simp; omega)] at hj; cases hj
      subst hj0
      rw [Nat.mul_one, Nat.add_zero, hc k hl, ← hj]
      rw [List.getElem?_eq_getElem hl] at hk
      injection hk with hk
      simp [List.getD, hl, hk, byteV]
theorem RowB.of {w : World} {v : Value} {bs : List UInt8} (h : RowX w 1 ByP v bs) (h0 : bs ≠ []) : ∃ a c, v = .slice a bs.length c ∧ RowB w a bs.length c bs := by
  obtain ⟨a, c, rfl, hc, h⟩ := h
  refine ⟨a, c, rfl, ?_⟩
  rcases h with h | ⟨b, o, rfl, hlt, hx⟩
  · exact absurd h h0
  · refine .inr ⟨_, rfl, hc, rfl, .inr ⟨b, o, rfl, hlt, fun k hk => ?_⟩⟩
    obtain ⟨ys, rfl, h2⟩ := hx k _ (List.getElem?_eq_getElem hk)
    have := h2 0 _ rfl
    rw [Nat.mul_one, Nat.add_zero] at this
    rw [this]
    simp [List.getD, hk, byteV]
/-- Twin over bytes that came in. -/
theorem TwinB_any (bs : List UInt8) (a : Option Addr) (n c : Nat) (w : World) (hn : n ≤ 7000) (h : RowB w a n c bs) :
    Calls Tryd.prog 9 #[.slice a n c] w fun e w' => ∃ v, e = .returned v ∧ Ow.OwnX w' w.heap.size 5 1 ByP v bs ∧ Below w.heap.size w w' := by
  obtain ⟨j0, hj, hj0, hj1, hj2⟩ := Ow.info_of i_u8
  have hl := h.len
  have HR := hide h.x
  clear h
  go_enter Tryd.func9, Tryd.ntmps9
  go_wp2_with (at_builtin; refine Ow.wpList_app rfl (.tmp 4) (.tmp 5) 22 rfl Tryd.underlying22 hj hj0 hj1 hj2 (by decide) shp_by (by first | rfl | simp [Act.eval, Act.put]) (Ow.OwnX.nil w w.heap.size 5 1 ByP) (by first | rfl | simp [Act.eval, Act.put]) HR.out (by simp; omega) (by decide) (Nat.le_refl _) ?_)
  intro v' w' hown hgrow
  have hB := Ow.bel_grown (Ow.OwnX.nil w w.heap.size 5 1 ByP) (Nat.le_refl _) hgrow
  clear hgrow
  go_wp2
  go_ret
  exact ⟨_, rfl, hown, hB⟩


/-- step_app where the operation is guarded and wanted. -/
theorem Ow.step_appG {α : Type} {P : α → List Value → Prop} {sz base e : Nat} {w : World} {v : Value} {l : List α} {Pr : Program} {ops : Array Oper} {o : Oper} {a : Act} {K : Act → World → Prop} {Q : Exit → Act → World → Prop} {E : Prop} (hw : Region.wanted o (yielded ops a.tmps) = true) (s x : Operand) (t : TypeId)
    (hop : o.op = .call { callee := .builtin .append, args := #[s, x], argTypes := #[t, t] }) {i : TypeInfo} {bytes : Nat}
    (ht : Pr.underlying t = some (.slice e)) (hi : Pr.info? e = some i) (hz : i.zero.map (fun z => z.cells.size) = some sz) (hsize : i.size = sz) (hby : i.bytes = bytes) (hsz : 0 < sz) (hs : Ow.Shp P sz)
    (hv : a.eval s = v) (ho : Ow.OwnX w base e sz P v l) {v2 : Value} {l2 : List α} (hv2 : a.eval x = v2) (hr : RowX w sz P v2 l2) (h63 : l.length + l2.length ≤ 1000000) (hb2 : bytes ≤ 1000) (hbase : base ≤ w.heap.size)
    (h : ∀ v' w', Ow.OwnX w' base e sz P v' (l ++ l2) → w.grownBy w' v.ownBlock → K (a.put o.dst v') w') :
    if Region.wanted o (yielded ops a.tmps) = true then Oper.wp Pr o a w K Q else E := by
  rw [if_pos hw]
  obtain ⟨v', w', hrun, h1, h2⟩ := Ow.run_app (Pr := Pr) (t := t) (ty := o.type) (n := 0) ht hi hz hsize hby hsz hs ho hr h63 hb2 hbase
  unfold Oper.wp execOp
  simp only [hop, resolve, invoke, builtin, Sem.run_bind, Sem.run_pure, Result.andThen_ok, List.map_toArray, List.map_cons, List.map_nil, hv, hv2, hrun]
  exact h v' w' h1 h2

theorem field_prog (v : Value) (w : World) : (Instr.field 26 (.agg #[v]) 0).run Tryd.prog w = .ok v w := by
  unfold Instr.field asAgg
  go_simp

set_option maxHeartbeats 1000000 in
theorem pjoin_long (a b : Option Addr) (n m c d : Nat) (hn : n ≤ maxLen) (hm : m ≤ maxLen) (h : 2500 < n ∨ (n ≤ 2500 ∧ 2500 < m)) (w : World) :
    Calls Tryd.prog 7 #[.slice a n c, .slice b m d] w fun e w' => e = .returned (.bool true) ∧ Below w.heap.size w w' := by
  unfold maxLen at hn hm
  rcases h with h | ⟨h, h2⟩
  · go_enter Tryd.func7, Tryd.ntmps7
    go_wp2_with fail
    go_ret
    exact ⟨rfl, Below.refl _ _⟩
  · go_enter Tryd.func7, Tryd.ntmps7
    go_wp2_with fail
    go_ret
    exact ⟨rfl, Below.refl _ _⟩

/-- What both programs come to, ahead of the comparison. -/
theorem join_row {w0 w8 : World} {B : Nat} {v1 v2 : Value} {cs ds : List Pp.XCls} (hq : RowX w0 6 (ClsX w0) v2 ds) (ho : Ow.OwnX w8 B 58 6 (Ow.ClsO w8 B) v1 cs) (hB : w0.heap.size ≤ B) (hb : Below w0.heap.size w0 w8) :
    ∃ P : Pp.XCls → List Value → Prop, Ow.Shp P 6 ∧ RowX w8 6 P v2 ds ∧ Ow.OwnX w8 B 58 6 P v1 cs ∧ ∀ w9, Below B w8 w9 → Ow.Kx 58 w8 w9 → ∀ x ys, P x ys → ClsX w9 x ys := by
  refine ⟨fun x ys => ClsX w0 x ys ∨ Ow.ClsO w8 B x ys, ?_, hq.on hb fun _ _ h => .inl h, ho.low (Nat.le_refl _) fun _ _ h => .inr h, fun w9 h9 hk x ys h => ?_⟩
  · rintro x ys (⟨vi, vf, vm, rfl, h1, h2, h3, _⟩ | h)
    · refine ⟨rfl, ?_⟩
      obtain ⟨a1, c1, rfl, _⟩ := h1.len
      obtain ⟨a2, c2, rfl, _⟩ := h2.len
      obtain ⟨a3, c3, rfl, _⟩ := h3.len
      intro u hu
      simp [clsXL] at hu
      rcases hu with rfl | rfl | rfl | rfl | rfl | rfl <;> rfl
    · exact Ow.shp_cls x ys h
  · rcases h with h | h
    · exact h.on (hb.trans (h9.mono hB))
    · exact (h.kx hk (by decide) (by decide) (by decide) (by decide) (by decide) (by decide)).x

set_option maxRecDepth 100000 in
set_option maxHeartbeats 8000000 in
theorem pjoin_walk (a b : Option Addr) (n m c d : Nat) (bs es : List UInt8) (w : World) (ha : RowB w a n c bs) (hb : RowB w b m d es) (hn : n ≤ 2500) (hm : m ≤ 2500) (ht : TabS w) :
    Calls Tryd.prog 7 #[.slice a n c, .slice b m d] w fun e w' => e = .returned (.bool true) ∧ Below w.heap.size w w' := by
  have hmx : n ≤ maxLen := by unfold maxLen; omega
  have hmy : m ≤ maxLen := by unfold maxLen; omega
  have HT := hide ht
  have HA := hide ha
  have HB := hide hb
  have hna := ha.len
  have hnb := hb.len
  have hP := hide (Program_row ha hmx ht)
  clear ha hb ht
  have HOK := hide (Pp.program_ok bs)
  have HOK2 := hide (Pp.program_ok es)
  have HTWO := hide (fun h1 h2 => Pp.program_two (a := bs) (b := es) h1 h2 (by omega))
  have hQ := hide (fun (wx : World) (hx : Below w.heap.size w wx) => Program_row (HB.out.on hx) hmy (HT.out.below hx))
  obtain ⟨cs, hcs⟩ : ∃ cs, (Pp.program bs).1 = cs := ⟨_, rfl⟩
  obtain ⟨er, her⟩ : ∃ er, (Pp.program bs).2.2 = er := ⟨_, rfl⟩
  obtain ⟨ds, hds⟩ : ∃ ds, (Pp.program es).1 = ds := ⟨_, rfl⟩
  obtain ⟨fr, hfr⟩ : ∃ fr, (Pp.program es).2.2 = fr := ⟨_, rfl⟩
  rw [hcs] at hP HOK HTWO
  rw [her] at hP HTWO
  rw [hds] at hQ HOK2 HTWO
  rw [hfr] at hQ HTWO
  clear hcs her hds hfr
  generalize (Pp.program bs).2.1 = pl at hP
  generalize (Pp.program es).2.1 = ql at hQ
  go_enter Tryd.func7, Tryd.ntmps7
  go_wp2_with fail
  refine hP.out.mono ?_
  clear hP
  rintro e w1 ⟨v1, rfl, hp1, hb1⟩
  obtain ⟨a1, c1, rfl, hcap1⟩ := RowP.len hp1
  have HB1 := hide (hb1.alloc hb1.size (.cells #[.slice a1 cs.length c1] 26))
  have HP1 := hide hp1
  clear hb1 hp1
  go_wp2_with fail
  refine (hQ.out _ HB1.out).mono ?_
  clear hQ
  rintro e w2 ⟨v2, rfl, hp2, hb2⟩
  obtain ⟨a2, c2, rfl, hcap2⟩ := RowP.len hp2
  have hsz1 : w1.heap.size < w2.heap.size := by have := hb2.size; simp at this; omega
  have k1 : w2.cell? ⟨w1.heap.size, 0, none⟩ = some (.slice a1 cs.length c1) := by
    rw [hb2.cell (by simp)]
    exact cell_box (heap_alloc_new w1 _) 0
  have HP2 := hide (ProgP.on HP1.out (((Below.refl _ _).alloc (Nat.le_refl _) _).trans (hb2.mono (by simp))))
  have HQ2 := hide hp2
  have HB2 := hide (HB1.out.trans (hb2.mono HB1.out.size))
  clear hp2 hb2 HP1 HB1
  by_cases hgo : er = 0 ∧ fr = 0
  · obtain ⟨rfl, rfl⟩ := hgo
    have HF := hide (HTWO.out rfl rfl)
    clear HTWO
    go_wp2_with fail
    have k2 : (w2.alloc (.cells #[.slice a2 ds.length c2] 26)).cell? ⟨w2.heap.size, 0, none⟩ = some (.slice a2 ds.length c2) := cell_box (heap_alloc_new w2 _) 0
    have hA3 : Below w2.heap.size w2 (w2.alloc (.cells #[.slice a2 ds.length c2] 26)) := (Below.refl _ _).alloc (Nat.le_refl _) _
    have k1' : (w2.alloc (.cells #[.slice a2 ds.length c2] 26)).cell? ⟨w1.heap.size, 0, none⟩ = some (.slice a1 cs.length c1) := (hA3.cell (by exact hsz1)).trans k1
    have HP3 := hide (ProgP.on HP2.out hA3)
    have HQ3 := hide (ProgP.on HQ2.out hA3)
    have HB3 := hide (HB2.out.trans (hA3.mono HB2.out.size))
    have hs2 : w2.heap.size < (w2.alloc (.cells #[.slice a2 ds.length c2] 26)).heap.size := by simp
    clear k1 HP2 HQ2 HB2 hA3
    generalize (w2.alloc (.cells #[.slice a2 ds.length c2] 26)) = w3 at *
    refine (TwinB_any bs a n c w3 (by omega) (HA.out.on HB3.out)).mono ?_
    rintro e w4 ⟨v4, rfl, ho4, hb4⟩
    obtain ⟨ta, tc, rfl⟩ := ho4.shape
    rw [hna] at ho4 ⊢
    have HO4 := hide ho4
    have HB4 := hide hb4
    clear ho4 hb4
    obtain ⟨j0, hj, hj0, hj1, hj2⟩ := Ow.info_of i_u8
    have hA4 : Below w4.heap.size w4 (w4.alloc (.cells #[.int .u8 10] 5)) := (Below.refl _ _).alloc (Nat.le_refl _) _
    have HO5 := hide (HO4.out.on hA4 fun _ _ h => h)
    have HR5 : Hid (RowX (w4.alloc (.cells #[.int .u8 10] 5)) 1 ByP (.slice (some ⟨w4.heap.size, 0, none⟩) 1 1) [10]) := hide (Ow.row_one (x := 10) (P := ByP) (ys := [.int .u8 10]) rfl)
    have hb5 := Nat.le_trans HB4.out.size hA4.size
    go_wp2_with (at_builtin; refine Ow.wpList_app rfl (.tmp 43) (.tmp 44) 22 rfl Tryd.underlying22 hj hj0 hj1 hj2 (by decide) shp_by (by first | rfl | simp [Act.eval, Act.put]) HO5.out (by first | rfl | simp [Act.eval, Act.put]) HR5.out (by simp; omega) (by decide) hb5 ?_)
    intro v5 w5 ho5 hg5
    have HB5 := hide ((HB4.out.trans (hA4.mono HB4.out.size)).trans (Ow.bel_grown HO5.out hb5 hg5))
    have HO6 := hide ho5
    clear ho5 hg5 hA4 HO5 HR5 HO4 HB4
    obtain ⟨xa, xc, rfl⟩ := HO6.out.shape
    have HR6 := hide ((HB.out.on (HB3.out.trans (HB5.out.mono HB3.out.size))).x)
    have hl6 : (bs ++ [10]).length = n + 1 := by simp; omega
    rw [hl6] at HO6 ⊢
    go_wp2_with (at_builtin; refine Ow.wpList_app rfl (.tmp 45) (.tmp 46) 22 rfl Tryd.underlying22 hj hj0 hj1 hj2 (by decide) shp_by (by first | rfl | simp [Act.eval, Act.put]) HO6.out (by first | rfl | simp [Act.eval, Act.put]) HR6.out (by simp; omega) (by decide) HB5.out.size ?_)
    intro v6 w6 ho6 hg6
    have HB6 := hide (HB5.out.trans (Ow.bel_grown HO6.out HB5.out.size hg6))
    have hne : bs ++ 10 :: es ≠ [] := by simp
    have ho6' : Ow.OwnX w6 w3.heap.size 5 1 ByP v6 (bs ++ 10 :: es) := by simpa using ho6
    obtain ⟨ya, yc, rfl, hrow6⟩ := RowB.of (ho6'.row shp_by fun _ _ h => h) hne
    have hl7 : (bs ++ 10 :: es).length = n + 1 + m := by simp; omega
    rw [hl7] at hrow6 ⊢
    have hR := hide (Program_row hrow6 (by unfold maxLen; omega) (HT.out.below (HB3.out.trans (HB6.out.mono HB3.out.size))))
    have HOK3 := hide (Pp.program_ok (bs ++ 10 :: es))
    clear hrow6 ho6 ho6' hg6 HO6 HR6 HB5 hne hl7 hl6 HA HB
    obtain ⟨rs, hrs⟩ : ∃ rs, (Pp.program (bs ++ 10 :: es)).1 = rs := ⟨_, rfl⟩
    obtain ⟨gr, hgr⟩ : ∃ gr, (Pp.program (bs ++ 10 :: es)).2.2 = gr := ⟨_, rfl⟩
    have HF2 : Hid ((cs.length + ds.length ≤ 10 → rs = cs ++ ds ∧ gr = 0) ∧ (10 < cs.length + ds.length → gr = 2 ∧ rs = [])) := hide ⟨fun h => by have := HF.out.1 h; rw [← hrs, ← hgr, this]; exact ⟨rfl, rfl⟩, fun h => by have := HF.out.2 h; rw [← hrs, ← hgr]; exact this⟩
    rw [hrs] at hR HOK3
    rw [hgr] at hR
    clear hrs hgr HF
    generalize (Pp.program (bs ++ 10 :: es)).2.1 = rl at hR
    go_wp2_with fail
    refine hR.out.mono ?_
    clear hR
    rintro e w7 ⟨v7, rfl, hp7, hb7⟩
    obtain ⟨a3, c3, rfl, hcap3⟩ := RowP.len hp7
    obtain ⟨ln, hln⟩ : ∃ q, q = rs.length := ⟨_, rfl⟩
    have HLN := hide hln
    rw [← hln] at hcap3 hp7 ⊢
    clear hln
    have HB7 := hide (HB6.out.trans (hb7.mono HB6.out.size))
    have HR7 := hide hp7
    have hsz7 : w3.heap.size ≤ w7.heap.size := HB7.out.size
    clear hp7 hb7 HB6
    have hA8 : Below w7.heap.size w7 (w7.alloc (.cells #[.slice a3 ln c3] 26)) := (Below.refl _ _).alloc (Nat.le_refl _) _
    have HB8 := hide (HB7.out.trans (hA8.mono HB7.out.size))
    have k3 : (w7.alloc (.cells #[.slice a3 ln c3] 26)).cell? ⟨w7.heap.size, 0, none⟩ = some (.slice a3 ln c3) := cell_box (heap_alloc_new w7 _) 0
    have HR8 := hide (ProgP.on HR7.out hA8)
    have hs7 : w7.heap.size < (w7.alloc (.cells #[.slice a3 ln c3] 26)).heap.size := by simp
    by_cases h10 : 10 < cs.length + ds.length
    · obtain ⟨rfl, hrs0⟩ := HF2.out.2 h10
      obtain rfl : ln = 0 := by rw [HLN.out, hrs0]; rfl
      clear hrs0
      have q1 := (HB8.out.cell (p := ⟨w1.heap.size, 0, none⟩) (by show w1.heap.size < _; omega)).trans k1'
      have q2 := (HB8.out.cell (p := ⟨w2.heap.size, 0, none⟩) (by show w2.heap.size < _; omega)).trans k2
      have h10' : ((10 : Int) < (cs.length : Int) + (ds.length : Int)) := by omega
      have hc10 : cs.length ≤ 10 := HOK.out.1
      have hd10 : ds.length ≤ 10 := HOK2.out.1
      have hc10' : (cs.length : Int) ≤ 10 := by omega
      have hd10' : (ds.length : Int) ≤ 10 := by omega
      go_wp2_with fail
      have hx := HB3.out.trans (HB8.out.mono HB3.out.size)
      refine (wakes_any _ (HT.out.below hx)).mono ?_
      rintro e w9 ⟨rfl, hb9⟩
      go_wp2_with fail
      go_ret
      exact ⟨rfl, hx.trans (hb9.mono hx.size)⟩
    · have hle : cs.length + ds.length ≤ 10 := by omega
      obtain ⟨e3, rfl⟩ := HF2.out.1 hle
      have E3 := hide e3
      have HN3 : Hid (ln = cs.length + ds.length) := hide (by rw [HLN.out, e3, List.length_append])
      clear e3
      have hK : Hid (∀ wx, Below (w7.alloc (.cells #[.slice a3 ln c3] 26)).heap.size (w7.alloc (.cells #[.slice a3 ln c3] 26)) wx → wx.cell? ⟨w7.heap.size, 0, none⟩ = some (.slice a3 ln c3) ∧ wx.cell? ⟨w1.heap.size, 0, none⟩ = some (.slice a1 cs.length c1) ∧ wx.cell? ⟨w2.heap.size, 0, none⟩ = some (.slice a2 ds.length c2)) := hide fun wx hx =>
        ⟨(hx.cell (by exact hs7)).trans k3, ((HB8.out.trans (hx.mono HB8.out.size)).cell (p := ⟨w1.heap.size, 0, none⟩) (by show w1.heap.size < _; omega)).trans k1', ((HB8.out.trans (hx.mono HB8.out.size)).cell (p := ⟨w2.heap.size, 0, none⟩) (by show w2.heap.size < _; omega)).trans k2⟩
      have HPX : Hid (∀ wx, Below (w7.alloc (.cells #[.slice a3 ln c3] 26)).heap.size (w7.alloc (.cells #[.slice a3 ln c3] 26)) wx → Calls Tryd.prog 25 #[.agg #[.slice a1 cs.length c1]] wx fun e w' => ∃ v', e = .returned (.agg #[v']) ∧ Ow.ProgO w' wx.heap.size v' (cs.map Pp.clsX) ∧ Below wx.heap.size wx w') := hide fun wx hx => TwinProgram_any (cs.map Pp.clsX) _ wx (progX_of HOK.out (ProgP.on HP3.out (HB8.out.trans (hx.mono HB8.out.size)))) (light_of HOK.out)
      have HQX : Hid (RowX w3 6 (ClsX w3) (.slice a2 ds.length c2) (ds.map Pp.clsX)) := hide (progX_of HOK2.out HQ3.out).1
      have HSH := hide (short_of_ok HOK3.out)
      obtain ⟨i0, hi, hi0, hi1, hi2⟩ := Ow.info_of Ow.i_cls
      have hc10 : cs.length ≤ 10 := HOK.out.1
      have hd10 : ds.length ≤ 10 := HOK2.out.1
      have hx8 := hide (HB3.out.trans (HB8.out.mono HB3.out.size))
      have q0 := hK.out _ (Below.refl _ _)
      have q1 := q0.2.1
      have q2 := q0.2.2
      have q0 := q0.1
      have h10' : ((cs.length : Int) + (ds.length : Int)) ≤ 10 := by omega
      have hc10' : (cs.length : Int) ≤ 10 := by omega
      have hd10' : (ds.length : Int) ≤ 10 := by omega
      go_wp2_with fail
      generalize w7.alloc (.cells #[.slice a3 ln c3] 26) = wz at *
      have hszz : w3.heap.size ≤ wz.heap.size := HB8.out.size
      have hD : Hid (Below wz.heap.size wz wz.drew) := hide ⟨rfl, rfl, rfl, Nat.le_refl _, fun _ _ => rfl⟩
      have HBz := hide hD.out
      have hfld := field_prog
      clear k3 k1' k2 HF2 HLN hA8 hcap1 hcap2 hcap3
      go_region_held3 (fun wx => wx.cell? ⟨w7.heap.size, 0, none⟩ = some (.slice a3 ln c3) ∧ wx.cell? ⟨w1.heap.size, 0, none⟩ = some (.slice a1 cs.length c1) ∧ wx.cell? ⟨w2.heap.size, 0, none⟩ = some (.slice a2 ds.length c2)) (exact hK.out _ HBz.out)
        (first
          | (go_at_call 25
             refine (HPX.out _ HBz.out).mono ?_
             rintro e w8 ⟨v8, rfl, ho8, hb8⟩
             obtain ⟨ta, tc, rfl⟩ := ho8.1.shape
             have HO8 : Hid (Ow.OwnX w8 wz.heap.size 58 6 (Ow.ClsO w8 wz.heap.size) (.slice ta (cs.map Pp.clsX).length tc) (cs.map Pp.clsX)) := hide ho8.1
             rw [List.length_map] at HO8 ⊢
             have HBz := hide (HBz.out.trans (hb8.mono HBz.out.size))
             clear ho8 hb8)
          | (go_at_call 24
             have hc := HP9.out
             rw [← E3.out] at hc
             refine (Classes_same rs _ _ _ HSH.out.1 HSH.out.2 (ProgP.on HR8.out HBz.out) hc).mono ?_
             rintro e w10 ⟨rfl, hb10⟩
             have HBz := hide (HBz.out.trans (hb10.mono HBz.out.size))
             clear hb10 hc)
          | (go_at_call 20
             refine (wakes_any _ (HT.out.below (hx8.out.trans (HBz.out.mono hx8.out.size)))).mono ?_
             rintro e w11 ⟨rfl, hb11⟩
             have HBz := hide (HBz.out.trans (hb11.mono HBz.out.size))
             clear hb11)
          | (obtain ⟨P, hs, hr, ho, hx⟩ := join_row HQX.out HO8.out hszz (HB8.out.trans (HBz.out.mono HB8.out.size))
             refine Ow.step_appG (by rfl) (.tmp 78) (.tmp 80) 24 rfl Tryd.underlying24 hi hi0 hi1 hi2 (by decide) hs (by first | rfl | simp [Act.eval, Act.put]) ho (by first | rfl | simp [Act.eval, Act.put]) hr (by rw [List.length_map, List.length_map]; omega) (by decide) HBz.out.size ?_
             intro v9 w9 hown hgrow
             have h9 := Ow.bel_grown ho HBz.out.size hgrow
             have hrow := hown.row hs (hx w9 h9 (Ow.kx_grown ho hgrow))
             obtain ⟨ja, jc, hv9, hjc⟩ := hrow.len
             subst hv9
             have hp9 := progP_of (by rw [← List.map_append]; exact pos_of _) hrow
             rw [← List.map_append, toP_all, List.length_map] at hp9
             rw [← List.map_append, List.length_map]
             obtain ⟨nn, hnn⟩ : ∃ q, q = (cs ++ ds).length := ⟨_, rfl⟩
             rw [← hnn] at hp9 ⊢
             have HP9 := hide hp9
             have HBz := hide (HBz.out.trans h9)
             clear hown hgrow h9 hrow hjc hp9 hs hr ho hx P hnn)
          | fail)
      all_goals go_wp2_with fail
      all_goals go_ret
      all_goals exact ⟨rfl, hx8.out.trans (HBz.out.mono hx8.out.size)⟩
  · have hg : er ≠ 0 ∨ (er = 0 ∧ fr ≠ 0) := by
      by_cases h : er = 0
      · exact .inr ⟨h, fun h2 => hgo ⟨h, h2⟩⟩
      · exact .inl h
    have hx := HB2.out.alloc HB2.out.size (.cells #[.slice a2 ds.length c2] 26)
    rcases hg with h | ⟨rfl, h⟩
    · have g1 : (er != 0) = true := by simpa using h
      go_wp2_with fail
      refine (wakes_any _ (HT.out.below hx)).mono ?_
      rintro e w5 ⟨rfl, hb5⟩
      go_wp2_with fail
      go_ret
      exact ⟨rfl, hx.trans (hb5.mono hx.size)⟩
    · have g1 : (fr != 0) = true := by simpa using h
      go_wp2_with fail
      refine (wakes_any _ (HT.out.below hx)).mono ?_
      rintro e w5 ⟨rfl, hb5⟩
      go_wp2_with fail
      go_ret
      exact ⟨rfl, hx.trans (hb5.mono hx.size)⟩

end Go.Proofs.YtpngpkbnhepleaaDoor

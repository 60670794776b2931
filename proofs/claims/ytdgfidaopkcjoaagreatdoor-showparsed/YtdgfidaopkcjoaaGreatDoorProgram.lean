/- What scanned and Program answer. -/
import Derived.Test.YtdgfidaopkcjoaaGreatDoorPgBase
namespace Go.Proofs.YtdgfidaopkcjoaaGreatDoor
open Go.RowKit
set_option linter.unusedVariables false
set_option linter.unusedSimpArgs false

/-- What Scan is known to answer of a slice of bytes. -/
def Scans (w : World) (v : Value) (bs : List UInt8) : Prop := ∀ w', Below w.heap.size w w' → Calls Tryz.prog 30 #[v] w' fun e w'' => ∃ vw, e = .returned (.tuple #[vw, .int .i64 ((Lx.scanL bs).2.1 : Int), .int .i64 ((Lx.scanL bs).2.2 : Int)]) ∧
  w''.ownsRow w'.heap.size 85 4 vw (Lx.scanL bs).1.length (toksCells (Lx.scanL bs).1) ∧ Below w'.heap.size w' w''

set_option maxRecDepth 100000 in
set_option maxHeartbeats 4000000 in
theorem scanned_any {w : World} {av : Option Addr} {len cp : Nat} {bs : List UInt8} (hs : Scans w (.slice av len cp) bs) (hlen : len ≤ maxLen) :
    Calls Tryz.prog 14 #[.slice av len cp] w fun e w' => ∃ vw, e = .returned (.agg #[vw, .int .i64 0, .int .i64 (len : Int), .int .i64 ((Lx.scanL bs).2.1 : Int), .int .i64 ((Lx.scanL bs).2.2 : Int)]) ∧
      w'.ownsRow w.heap.size 85 4 vw (Lx.scanL bs).1.length (toksCells (Lx.scanL bs).1) ∧ Below w.heap.size w w' := by
  have hC := hide (hs (w.alloc (.cells #[.slice none 0 0, .int .i64 0, .int .i64 0, .int .i64 0, .int .i64 0] 62)) ((Below.refl _ _).alloc (Nat.le_refl _) _))
  clear hs
  obtain ⟨a1, h1⟩ : ∃ a, a = (Lx.scanL bs).2.1 := ⟨_, rfl⟩
  obtain ⟨a2, h2⟩ : ∃ a, a = (Lx.scanL bs).2.2 := ⟨_, rfl⟩
  obtain ⟨tk, h3⟩ : ∃ a, a = (Lx.scanL bs).1 := ⟨_, rfl⟩
  rw [← h1, ← h2, ← h3] at hC ⊢
  clear h1 h2 h3
  have hl2 : (len : Int) ≤ 9223372036854775807 := by unfold maxLen at hlen; omega
  go_enter Tryz.func14, Tryz.ntmps14
  go_wp2_with fail
  refine hC.out.mono ?_
  rintro e w1 ⟨vw, rfl, ho, hb⟩
  obtain ⟨va, vc, rfl⟩ := own_shapeV ho
  have hB : Below w.heap.size w w1 := ((Below.refl _ _).alloc (Nat.le_refl _) _).trans (hb.mono (by simp))
  have hblk : w1.heap[w.heap.size]? = some (.cells #[.slice none 0 0, .int .i64 0, .int .i64 0, .int .i64 0, .int .i64 0] 62 (0, 0)) := (hb.block w.heap.size (by simp)).trans (heap_alloc_new w _)
  have k0 := cell_blk hblk 0
  have k1 := cell_blk hblk 1
  have k2 := cell_blk hblk 2
  have k3 := cell_blk hblk 3
  have k4 := cell_blk hblk 4
  have f0 := frozen_blk hblk 0
  have f1 := frozen_blk hblk 1
  have f2 := frozen_blk hblk 2
  have f3 := frozen_blk hblk 3
  have f4 := frozen_blk hblk 4
  have HO := hide (own_base ho (show w.heap.size ≤ (w.alloc (.cells #[.slice none 0 0, .int .i64 0, .int .i64 0, .int .i64 0, .int .i64 0] 62)).heap.size by simp))
  have HB := hide hB
  have HBK := hide hblk
  clear ho hb hB hblk hC
  go_wp2_with fail
  refine bodyPost_ret (v := .agg #[.slice va tk.length vc, .int .i64 0, .int .i64 (len : Int), .int .i64 (a1 : Int), .int .i64 (a2 : Int)]) (by simp [results, Tryz.results14, go_sem, *]) rfl ⟨.slice va tk.length vc, rfl, ?_, ?_⟩
  · exact Kp.own (Kp.trans (Kp.set HBK.out (by decide) 0 _) (Kp.trans (Kp.set (blk_set HBK.out 0 (by simp) _) (by decide) 1 _) (Kp.trans (Kp.set (blk_set (blk_set HBK.out 0 (by simp) _) 1 (by simp) _) (by decide) 2 _) (Kp.trans (Kp.set (blk_set (blk_set (blk_set HBK.out 0 (by simp) _) 1 (by simp) _) 2 (by simp) _) (by decide) 3 _) (Kp.set (blk_set (blk_set (blk_set (blk_set HBK.out 0 (by simp) _) 1 (by simp) _) 2 (by simp) _) 3 (by simp) _) (by decide) 4 _))))) HO.out
  · repeat (first | exact HB.out | refine Below.setCell ?_ (by simp) _)

theorem program_of {bs : List UInt8} {tk : List Lx.Tok} {a1 a2 len : Nat} {vw : Value} {C : Cx} {cs : List Pp.Cls} {s : Pp.St} (hsc : Lx.scanL bs = (tk, a1, a2)) (hC : C = ⟨tk, vw, len, if a2 = 0 then len else a1⟩) (hl : len = bs.length) (h : Pp.progP.run C.ws ⟨0, (a2 : Int)⟩ = (cs, s)) :
    (s.e = 0 → Pp.program bs = (cs, 0, 0)) ∧ (s.e ≠ 0 → Pp.program bs = ([], Pp.place C.tk C.pl s.i, s.e)) := by
  have e : Pp.progP.run (tk.map Pp.wd) ⟨0, (a2 : Int)⟩ = (cs, s) := by rw [← h, hC]; rfl
  constructor
  · intro hs
    simp only [Pp.program, hsc, e]
    rw [if_pos hs]
  · intro hs
    simp only [Pp.program, hsc, e]
    rw [if_neg hs, hC, hl]

set_option maxRecDepth 100000 in
set_option maxHeartbeats 16000000 in
theorem Program_any {w : World} {av : Option Addr} {len cp : Nat} {bs : List UInt8} (hs : Scans w (.slice av len cp) bs) (hl : len = bs.length) (hlen : len ≤ maxLen) (ht : TabS w) :
    Calls Tryz.prog 8 #[.slice av len cp] w fun e w' => ∃ v, e = .returned (.tuple #[.agg #[v], .int .i64 ((Pp.program bs).2.1 : Int), .int .i64 (Pp.program bs).2.2]) ∧ ProgIs w' w.heap.size (Pp.program bs).1 v ∧ Below w.heap.size w w' := by
  obtain ⟨PR, hPR⟩ : ∃ PR, PR = Pp.program bs := ⟨_, rfl⟩
  rw [← hPR]
  have HPR := hide hPR
  clear hPR
  obtain ⟨tk, a1, a2, hsc⟩ : ∃ tk a1 a2, Lx.scanL bs = (tk, a1, a2) := ⟨_, _, _, rfl⟩
  have hfacts := Lx.scanL_facts bs
  rw [hsc] at hfacts
  simp only at hfacts
  have hw2 := ht.lt
  have hSc := hide (scanned_any (w := w.alloc (.cells #[.slice none 0 0] 24)) (fun w' hb => hs w' (((Below.refl _ _).alloc (Nat.le_refl _) _).trans (hb.mono (by simp)))) hlen)
  rw [hsc] at hSc
  simp only at hSc
  have HSC := hide hsc
  have HL := hide hl
  have HT := hide ht
  have HF := hide hfacts
  clear hs hl ht hsc hfacts
  go_enter Tryz.func8, Tryz.ntmps8
  go_wp2_with fail
  refine hSc.out.mono ?_
  rintro e w1 ⟨vw, rfl, ho1, hb1⟩
  obtain ⟨va, vc, rfl⟩ := own_shapeV ho1
  obtain ⟨C, hC⟩ : ∃ C : Cx, C = ⟨tk, .slice va tk.length vc, len, if a2 = 0 then len else a1⟩ := ⟨_, rfl⟩
  have hB1 : Below w.heap.size w w1 := ((Below.refl _ _).alloc (Nat.le_refl _) _).trans (hb1.mono (by simp))
  have LA : Hid (Pg w (w1.alloc (.cells #[.slice va tk.length vc, .int .i64 0, .int .i64 (len : Int), .int .i64 (a1 : Int), .int .i64 (a2 : Int)] 62)) w1.heap.size w.heap.size C ⟨0, (a2 : Int)⟩ (.slice none 0 0)) := hide (by
    have hnew := heap_alloc_new w1 (.cells #[.slice va tk.length vc, .int .i64 0, .int .i64 (len : Int), .int .i64 (a1 : Int), .int .i64 (a2 : Int)] 62)
    have hB2 := hB1.alloc hB1.size (.cells #[.slice va tk.length vc, .int .i64 0, .int .i64 (len : Int), .int .i64 (a1 : Int), .int .i64 (a2 : Int)] 62)
    have hsz := hb1.size
    simp at hsz
    refine ⟨⟨?_, ?_, ?_, ?_, ?_, ?_, ?_⟩, ?_, hB2, ?_, Nat.le_refl _, ?_, hw2⟩
    · rw [hnew, hC]
      have hat : (if a2 = 0 then (0 : Nat) else Pp.place tk (if a2 = 0 then len else a1) 0) = a1 := by
        by_cases h0 : a2 = 0
        · rw [if_pos h0]; exact (HF.out.2.1 h0).symm
        · rw [if_neg h0, HF.out.2.2 h0]; simp [Pp.place, h0]
      simp [rdCells, atC]
      rw [hat]
    · rw [hC]; exact (own_base ho1 (Nat.zero_le _)).alloc _
    · exact Nat.zero_le _
    · rw [hC]; exact HF.out.1
    · intro he; rw [hC]; have : a2 = 0 := by simpa using he
      simp [this]
    · exact HT.out.fr (S := []) (Fr.ofBelow hB2) (fun x hx => by cases hx)
    · have := hB1.size; omega
    · rw [hB2.block w.heap.size |> fun _ => (Below.heap_alloc w1 _ w.heap.size (by omega))]
      exact (hb1.block w.heap.size (by simp)).trans (heap_alloc_new w _)
    · exact hB1.size
    · intro e; omega)
  have HC := hide hC
  have htk : C.tk = tk := by rw [hC]
  have hvw : C.vw = .slice va tk.length vc := by rw [hC]
  have hn : tk.length ≤ 6000 := HF.out.1
  have HX := hide (And.intro htk hvw)
  clear hC htk hvw ho1 hb1 hB1 hSc HT
  obtain ⟨V1, S5, hVS⟩ := pair_eta (Pp.classes.run C.ws ⟨0, (a2 : Int)⟩)
  have HR0 := hide hVS
  clear hVS
  go_wp2_with fail
  rename_i Q0 K0 hK0
  have hcut0 : ∀ (t6 t7 t8 t9 t10 t11 t12 t13 t14 t15 t16 t17 t18 t19 t20 t21 t22 t23 t24 t25 t26 t27 t28 t29 t30 t31 t32 t33 t34 t35 : Value) (wx : World), (∃ v, Hid (Pg w wx w1.heap.size w.heap.size C S5 v) ∧ Hid (ProgIs wx w.heap.size V1 v)) → K0 { tmps := #[.slice av len cp, undef, .pointer (some ⟨w.heap.size, 0, none⟩), .int .i64 0, .int .i64 0, .pointer (some ⟨w1.heap.size, 0, none⟩), t6, t7, t8, t9, t10, t11, t12, t13, t14, t15, t16, t17, t18, t19, t20, t21, t22, t23, t24, t25, t26, t27, t28, t29, t30, t31, t32, t33, t34, t35], defers := [] } wx := by
    intro t6 t7 t8 t9 t10 t11 t12 t13 t14 t15 t16 t17 t18 t19 t20 t21 t22 t23 t24 t25 t26 t27 t28 t29 t30 t31 t32 t33 t34 t35 wx hcut
    obtain ⟨v, LX, RX⟩ := hcut
    refine hK0 _ _ ?_
    clear hK0 LA
    obtain ⟨pa, pc, rfl⟩ := RX.out.shape
    have k1 := LX.out.rd.c1
    have k0 := LX.out.rd.c0
    have k3 := LX.out.rd.c3
    have k4 := LX.out.rd.c4
    have kp := LX.out.cell
    have fp := LX.out.fz
    rw [HX.out.2] at k0
    have hi := LX.out.rd.hi
    rw [HX.out.1] at hi
    have hpr := hide (prog_run HR0.out)
    rw [HX.out.1] at hpr
    obtain ⟨zi, ze⟩ := S5
    simp only at k1 k4 hi hpr
    by_cases hlt : zi < tk.length
    · rw [if_pos hlt] at hpr
      have hF := hide (fail_any LX.out.rd 4 (by decide))
      go_wp2_with fail
      refine hF.out.mono ?_
      rintro e w8 ⟨rfl, hr8, hf8⟩
      have L8 := hide (LX.out.call hr8 hf8)
      have R8 := hide (RX.out.keep (KpA.fr LX.out.rd hf8) (Kp.fr LX.out.rd hf8 (by decide)))
      clear hF hr8 hf8 LX RX k0 k1 k3 k4 kp fp
      have k0 := L8.out.rd.c0
      have k1 := L8.out.rd.c1
      have k3 := L8.out.rd.c3
      have k4 := L8.out.rd.c4
      have kp := L8.out.cell
      have fp := L8.out.fz
      rw [HX.out.2] at k0
      obtain ⟨S9, hS9⟩ : ∃ S9, S9 = Pp.failS ⟨zi, ze⟩ 4 := ⟨_, rfl⟩
      rw [← hS9] at hpr k1 k3 k4
      have L9 : Hid (Pg w w8 w1.heap.size w.heap.size C S9 (.slice pa V1.length pc)) := hide (by rw [hS9]; exact L8.out)
      clear hS9 L8
      have hfin := hide (program_of HSC.out HC.out HL.out hpr.out)
      rw [← HPR.out] at hfin
      obtain ⟨ni, ne⟩ := S9
      simp only at k1 k4 hfin
      by_cases hne : ne = 0
      · subst hne
        have hf2 := hide (hfin.out.1 rfl)
        clear hfin k3
        go_wp2_with fail
        refine bodyPost_ret (v := .tuple #[.agg #[.slice pa V1.length pc], .int .i64 0, .int .i64 0]) (by simp [results, Tryz.results8, go_sem, *]) rfl ?_
        rw [hf2.out]
        exact ⟨_, rfl, (R8.out.keep (KpA.setP L9.out.p 0 _) (Kp.set L9.out.p (by decide) 0 _)), L9.out.bl.setCell L9.out.hR _⟩
      · have hd : (ne != 0) = true := by simp [hne]
        have hf2 := hide (hfin.out.2 hne)
        have hat := hide (show atC C ⟨ni, ne⟩ = Pp.place C.tk C.pl ni from by simp [atC, hne])
        clear hfin
        go_wp2_with fail
        go_region
        all_goals go_wp2_with fail
        all_goals refine bodyPost_ret (v := .tuple #[.agg #[.slice none 0 0], .int .i64 (atC C ⟨ni, ne⟩ : Int), .int .i64 ne]) (by simp [results, Tryz.results8, go_sem, *]) rfl ?_
        all_goals rw [hf2.out, hat.out]
        all_goals exact ⟨_, rfl, ProgIs.nil _ _, L9.out.bl.drew.setCell L9.out.hR _⟩
    · rw [if_neg hlt] at hpr
      have L8 := LX
      have R8 := RX
      clear LX RX k0 k1 k3 k4 kp fp
      have k0 := L8.out.rd.c0
      have k1 := L8.out.rd.c1
      have k3 := L8.out.rd.c3
      have k4 := L8.out.rd.c4
      have kp := L8.out.cell
      have fp := L8.out.fz
      rw [HX.out.2] at k0
      have L9 := L8
      clear L8
      have hfin := hide (program_of HSC.out HC.out HL.out hpr.out)
      rw [← HPR.out] at hfin
      simp only at k1 k4 hfin
      by_cases hne : ze = 0
      · subst hne
        have hf2 := hide (hfin.out.1 rfl)
        clear hfin k3
        go_wp2_with fail
        refine bodyPost_ret (v := .tuple #[.agg #[.slice pa V1.length pc], .int .i64 0, .int .i64 0]) (by simp [results, Tryz.results8, go_sem, *]) rfl ?_
        rw [hf2.out]
        exact ⟨_, rfl, (R8.out.keep (KpA.setP L9.out.p 0 _) (Kp.set L9.out.p (by decide) 0 _)), L9.out.bl.setCell L9.out.hR _⟩
      · have hd : (ze != 0) = true := by simp [hne]
        have hf2 := hide (hfin.out.2 hne)
        have hat := hide (show atC C ⟨zi, ze⟩ = Pp.place C.tk C.pl zi from by simp [atC, hne])
        clear hfin
        go_wp2_with fail
        go_region
        all_goals go_wp2_with fail
        all_goals refine bodyPost_ret (v := .tuple #[.agg #[.slice none 0 0], .int .i64 (atC C ⟨zi, ze⟩ : Int), .int .i64 ze]) (by simp [results, Tryz.results8, go_sem, *]) rfl ?_
        all_goals rw [hf2.out, hat.out]
        all_goals exact ⟨_, rfl, ProgIs.nil _ _, L9.out.bl.drew.setCell L9.out.hR _⟩
  have HCUT0 := hide hcut0
  clear hcut0 hK0
  go_loopw [] (fun wr => ∃ (k : Nat) (cs : List Pp.Cls) (s' : Pp.St) (v : Value), Hid (Pg w wr w1.heap.size w.heap.size C s' v) ∧ Hid (ProgIs wr w.heap.size cs v) ∧ cs.length + k = 10 ∧ Hid ((Pp.many isC Pp.cls k cs).run C.ws s' = (V1, S5)))
    (fun wr => 10 - lenV ((wr.cell? ⟨w.heap.size, 0, none⟩).getD undef))
  case atStart => exact ⟨10, [], _, .slice none 0 0, LA, hide (ProgIs.nil _ _), rfl, HR0⟩
  case round =>
    obtain ⟨k, cs, s', v, hl, hm, hlenk, HR⟩ := hrel
    clear LA HR0
    obtain ⟨pa, pc, rfl⟩ := hm.out.shape
    have HK0 := hide hl.out.cell
    have hB := hide (sees_two hl.out.drew.rd Pp.wClass Pp.wInterface (by decide) (by decide) 9)
    obtain ⟨g, hg⟩ : ∃ g, g = Pp.has C.ws s' isC := ⟨_, rfl⟩
    rw [← hg] at hB
    have HG := hide hg
    clear hg
    obtain ⟨B, hBB⟩ : ∃ B, B = (g && decide (cs.length < 10)) := ⟨_, rfl⟩
    have HB := hide hBB
    clear hBB
    obtain ⟨z, hz⟩ : ∃ z, z = moreS s' g cs.length 10 := ⟨_, rfl⟩
    have HZ := hide hz
    clear hz
    unfold Pp.wClass Pp.wInterface at hB
    have kk := hl.out.cell
    have ka := (hl.out.drew.below ((Below.refl _ _).alloc (Nat.le_refl _) (.cells #[.string ⟨#[99, 108, 97, 115, 115]⟩, .string ⟨#[105, 110, 116, 101, 114, 102, 97, 99, 101]⟩] 9))).cell
    have hmb : w.heap.size < wr.heap.size := lt_of_block hl.out.p
    have hmn : ¬ w.heap.size = wr.heap.size := by omega
    go_wp2_with fail
    rename_i K1 hK1
    have hcut1 : ∀ (t8 t9 t10 t11 t12 t14 t15 t16 t17 t18 t19 : Value) (wx : World), (Hid (Pg w wx w1.heap.size w.heap.size C z (.slice pa cs.length pc)) ∧ Hid (ProgIs wx w.heap.size cs (.slice pa cs.length pc))) → K1 { tmps := #[.slice av len cp, undef, .pointer (some ⟨w.heap.size, 0, none⟩), .int .i64 0, .int .i64 0, .pointer (some ⟨w1.heap.size, 0, none⟩), .slice av len cp, .agg #[.slice va tk.length vc, .int .i64 0, .int .i64 (len : Int), .int .i64 (a1 : Int), .int .i64 (a2 : Int)], t8, t9, t10, t11, t12, .bool B, t14, t15, t16, t17, t18, t19, undef, undef, undef, undef, undef, undef, undef, undef, undef, undef, undef, undef, undef, undef, undef, undef], defers := [] } wx := by
      intro t8 t9 t10 t11 t12 t14 t15 t16 t17 t18 t19 wx hcut
      obtain ⟨LX, RX⟩ := hcut
      refine hK1 _ _ ?_
      clear hK1 hB kk ka hmb hmn hl hm
      cases hBt : B with
      | true =>
        rw [hBt] at HB
        obtain ⟨e1, e2⟩ : g = true ∧ cs.length < 10 := by have := HB.out; simp at this; exact this
        have e3 : Pp.has C.ws s' isC = true := by rw [← HG.out]; exact e1
        have e5 : z = s' := by rw [HZ.out]; simp [moreS, show ¬ 10 ≤ cs.length by omega]
        subst e5
        obtain ⟨k, rfl⟩ : ∃ k', k = k' + 1 := ⟨k - 1, by omega⟩
        have HE : Hid ((Pp.many isC Pp.cls k (cs ++ [(Pp.cls.run C.ws z).1])).run C.ws (Pp.cls.run C.ws z).2 = (V1, S5)) := hide (by rw [← HR.out, many_yes e3])
        clear HR HB HZ HG
        have hI := hide (class_any LX.out.drew.rd)
        obtain ⟨y, s7, h7⟩ := pair_eta (Pp.cls.run C.ws z)
        rw [h7] at hI HE
        simp only [clsA] at hI HE
        clear h7
        have k6 := LX.out.drew.cell
        obtain ⟨i0, hi, hz0, hz1, hz2⟩ := info_parts Tryz.info41
        have HI0 := hide (And.intro hi (And.intro hz0 (And.intro hz1 hz2)))
        clear hi hz0 hz1 hz2
        obtain ⟨xs, hx1, hx2⟩ := RX.out
        have RO6 := hide (And.intro hx1 hx2)
        clear hx1 hx2 RX
        have hbs := hide LX.out.hb
        go_wp2_with fail
        go_region_law (first | (refine step_append_own rfl (.tmp 15) (.tmp 17) 22 rfl w.heap.size 41 i0 (.agg #[.string ⟨#[]⟩, .bool false, .string ⟨#[]⟩, .slice none 0 0, .slice none 0 0, .slice none 0 0]) 6 112 Tryz.underlying22 HI0.out.1 HI0.out.2.1 HI0.out.2.2.1 HI0.out.2.2.2 rfl (by decide) (.slice pa cs.length pc) cs.length xs (by simp [Act.eval, Act.put]) RO8.out.1 ⟨w7.heap.size, 0, none⟩ 1 1 [.string ⟨y.name.toArray⟩, .bool y.iface, .string ⟨y.super.toArray⟩, .slice ia y.ifaces.length ib, .slice fa y.fields.length fb, .slice ma y.methods.length mb] (by simp [Act.eval, Act.put]) rfl HN8.out HN9.out (by unfold maxLen; omega) (by omega) (by have h3 := L8.out.bl.size; simp at h3; simpa using h3) ?_; intro v' w9 hown9 hgrow9; have l9 := L8.out.grown RO8.out.1 hgrow9 (fun k hk => by obtain ⟨c', hc'⟩ := own_at RO8.out.1 k hk; intro e; subst e; rw [L8.out.rd.blk] at hc'; simp at hc'); have k9 := l9.cell; have f9 := l9.fz; have m9 : ProgIs w9 w.heap.size (cs ++ [y]) v' := ⟨xs ++ clsC y (.slice ia y.ifaces.length ib) (.slice fa y.fields.length fb) (.slice ma y.methods.length mb), by rw [List.length_append]; exact hown9, ClssIs.snoc (HM8.out.keep (KpA.grownC RO8.out.1 hgrow9)) (RO8.out.2.keep (KpA.grownC RO8.out.1 hgrow9))⟩; have A9 := hide (And.intro l9 m9); obtain ⟨a9, c9, rfl⟩ := own_shapeV hown9; clear l9 hown9 hgrow9 m9) | (go_simp; refine hI.out.mono ?_; rintro e w7 ⟨vi, vf, vm, rfl, hm7, hr7, hf7⟩; obtain ⟨xs2, q1, q2, q3⟩ := hm7.2; obtain ⟨ia, ib, rfl⟩ := own_shapeV hm7.1; obtain ⟨fa, fb, rfl⟩ := own_shapeV q1; obtain ⟨ma, mb, rfl⟩ := own_shapeV q2; clear q1 q2 q3; have HM8 := hide ((ClsRows.base hm7 (LX.out.bl.size)).keep (KpA.alloc w7 (.cells #[.string ⟨y.name.toArray⟩, .bool y.iface, .string ⟨y.super.toArray⟩, .slice ia y.ifaces.length ib, .slice fa y.fields.length fb, .slice ma y.methods.length mb] 41))); clear hm7; have l7 := LX.out.drew.call hr7 hf7; have k7 := l7.cell; have L8 := hide (l7.below ((Below.refl w7.heap.size w7).alloc (Nat.le_refl _) (.cells #[.string ⟨y.name.toArray⟩, .bool y.iface, .string ⟨y.super.toArray⟩, .slice ia y.ifaces.length ib, .slice fa y.fields.length fb, .slice ma y.methods.length mb] 41))); have k8 := L8.out.cell; have KA := KpA.trans (KpA.trans (KpA.drew _) (KpA.fr LX.out.drew.rd hf7)) (KpA.alloc w7 (.cells #[.string ⟨y.name.toArray⟩, .bool y.iface, .string ⟨y.super.toArray⟩, .slice ia y.ifaces.length ib, .slice fa y.fields.length fb, .slice ma y.methods.length mb] 41)); have KC := Kp.trans (Kp.trans (Kp.drew 41 _) (Kp.fr LX.out.drew.rd hf7 (by decide))) (Kp.alloc _ w7 (.cells #[.string ⟨y.name.toArray⟩, .bool y.iface, .string ⟨y.super.toArray⟩, .slice ia y.ifaces.length ib, .slice fa y.fields.length fb, .slice ma y.methods.length mb] 41)); have RO8 := hide (And.intro (KC.own RO6.out.1) (RO6.out.2.keep KA)); have HN8 := hide (fresh_news w7 #[.string ⟨y.name.toArray⟩, .bool y.iface, .string ⟨y.super.toArray⟩, .slice ia y.ifaces.length ib, .slice fa y.fields.length fb, .slice ma y.methods.length mb] 41); have HN9 : Hid (∀ u ∈ ([.string ⟨y.name.toArray⟩, .bool y.iface, .string ⟨y.super.toArray⟩, .slice ia y.ifaces.length ib, .slice fa y.fields.length fb, .slice ma y.methods.length mb] : List Value), u.oneCell' = true) := hide (by intro u hu; simp at hu; rcases hu with rfl | rfl | rfl | rfl | rfl | rfl <;> rfl); clear l7 hr7 hf7 KA KC))
        all_goals
          have hp9 := A9.out.1.p
          have m10 := A9.out.2.keep (KpA.setP hp9 0 (.slice a9 (cs.length + 1) c9)) (Kp.set hp9 (by decide) 0 (.slice a9 (cs.length + 1) c9))
          have l10 := A9.out.1.set (.slice a9 (cs.length + 1) c9)
          have L10 := hide l10
          have M10 := hide m10
          have KK := hide l10.cell
          clear l10 m10 A9 L8 HN8 HN9 hI k6 k7 k8 k9 RO6 RO8 HM8 hp9 LX
          go_wp2_with fail
          go_roundw
          case rel => exact ⟨k, cs ++ [y], s7, .slice a9 (cs.length + 1) c9, L10, M10, by simp; omega, HE⟩
          case measure => rw [KK.out, HK0.out]; simp [lenV]; omega
      | false =>
        rw [hBt] at HB
        have HE : Hid ((cs, z) = (V1, S5)) := hide (by
          rw [← HR.out, HZ.out]
          cases hgt : g with
          | false => rw [hgt] at HG; rw [many_no HG.out.symm]; simp [moreS]
          | true =>
            rw [hgt] at HG HB
            have hc : ¬ cs.length < 10 := by have := HB.out; simp at this; omega
            have hk0 : k = 0 := by omega
            rw [hk0, many_full HG.out.symm, moreS, if_pos ⟨rfl, by omega⟩])
        clear HR HB HZ HG
        obtain ⟨e1, e2⟩ := Prod.mk.inj HE.out
        subst e1
        subst e2
        go_wp2_with fail
        exact HCUT0.out _ _ _ _ _ _ _ _ _ _ _ _ _ _ _ _ _ _ _ _ _ _ _ _ _ _ _ _ _ _ _ ⟨_, LX, RX⟩
    have HCUT1 := hide hcut1
    clear hcut1 hK1
    go_region_with (first | (go_at_call 16; refine hB.out.mono ?_; rintro e w5 ⟨rfl, hb5⟩; have l5 := hl.out.drew.below hb5; have k5 := l5.cell; have L5 := hide l5; have R5 := hide (hm.out.keep (KpA.trans (KpA.drew _) (KpA.below hb5)) (Kp.trans (Kp.drew _ _) (Kp.below hb5))); clear l5 hb5) | (go_at_call 15; refine (more_any L5.out.rd g cs.length 10).mono ?_; rw [← HB.out, ← HZ.out]; rintro e w6 ⟨rfl, hr6, hf6⟩; have A6 := hide (And.intro hr6 hf6); clear hr6 hf6))
    all_goals
      have L6 := hide (L5.out.call A6.out.1 A6.out.2)
      have R6 := hide (R5.out.keep (KpA.fr L5.out.rd A6.out.2) (Kp.fr L5.out.rd A6.out.2 (by decide)))
      clear A6 R5 L5 hB k5 kk ka hmb hmn hl hm
      go_wp2_with fail
      exact HCUT1.out _ _ _ _ _ _ _ _ _ _ _ _ ⟨L6, R6⟩
end Go.Proofs.YtdgfidaopkcjoaaGreatDoor

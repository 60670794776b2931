/- What show's writer says of words. -/
import Derived.Test.YtdgfidaopkcjoaaDoorShowJ
namespace Go.Proofs.YtdgfidaopkcjoaaDoor
open Go.RowKit
set_option linter.unusedVariables false
set_option linter.unusedSimpArgs false

namespace Sh
theorem u8_info : (Tryd.prog.info? 5).map (fun i => (i.zero, i.size, i.bytes)) = some (some (.int .u8 0), 1, 1) := by kernel_rfl
theorem step_append_own {P : Program} {ops : Array Oper} {o : Oper} {a : Act} {w : World} {K : Act → World → Prop} {Q : Exit → Act → World → Prop} {E : Prop}
    (hg : o.guard = none) (s x : Operand) (t : TypeId) (hop : o.op = Op.call { callee := Callee.builtin Builtin.append, args := #[s, x], argTypes := #[t, t] })
    (base : Nat) (e : TypeId) (i : TypeInfo) (z : Value) (size bytes : Nat) (ht : P.underlying t = some (.slice e)) (hi : P.info? e = some i) (hz : i.zero = some z)
    (hsize : i.size = size) (hby : i.bytes = bytes) (hzs : z.cells.size = size) (hsz : 0 < size)
    (v : Value) (n : Nat) (xs : List Value) (hs : a.eval s = v) (hown : w.ownsRow base e size v n xs)
    (ad : Addr) (m c : Nat) (news : List Value) (hx : a.eval x = .slice (some ad) m c) (hl : news.length = m * size) (hnews : ∀ j u, news[j]? = some u → w.cell? (ad.add j) = some u) (h1 : ∀ u ∈ news, u.oneCell' = true)
    (h63 : n + m ≤ maxLen) (hbytes : (n + m) * bytes ≤ 140737488355328) (hbase : base ≤ w.heap.size)
    (h : ∀ v' w', w'.ownsRow base e size v' (n + m) (xs ++ news) → w.grownBy w' v.ownBlock → K (a.put o.dst v') w') :
    if Region.wanted o (yielded ops a.tmps) = true then Oper.wp P o a w K Q else E := by
  have hw : Region.wanted o (yielded ops a.tmps) = true := by simp [Region.wanted, hg]
  rw [if_pos hw]
  obtain ⟨v', w', hr, h2, h3, h4, h5⟩ := run_append_own_at (P := P) w base t o.type e i z size bytes ht hi hz hsize hby hzs hsz v n xs hown ad m c news hl hnews h1 h63 hbytes hbase
  unfold Oper.wp execOp
  simp only [hop, resolve, invoke, builtin, Sem.run_bind, Sem.run_pure, Result.andThen_ok, List.map_toArray, List.map_cons, List.map_nil, hs, hx, hr]
  exact h v' w' h2 h3
theorem sayL_take {ws : List Pp.Bs} {k : Nat} {s : Pp.Bs} (h : ws[k]? = some s) : Pp.sayL (ws.take (k + 1)) = Pp.sayL (ws.take k) ++ s ++ [Pp.behL s] := by
  rw [List.take_add_one, h, Pp.sayL_app]; simp [Pp.sayL]
theorem sayL_le {ws : List Pp.Bs} (k : Nat) : (Pp.sayL (ws.take k)).length ≤ (Pp.sayL ws).length := by
  have h := Pp.sayL_app (ws.take k) (ws.drop k)
  rw [List.take_append_drop] at h
  rw [h, List.length_append]; omega
end Sh

set_option maxRecDepth 100000 in
set_option maxHeartbeats 4000000 in
theorem say_any (B b g o c : Nat) (ws : List Pp.Bs) (l : List UInt8) (v : Value) (w : World) (hw : Sh.Wr B w b l v)
    (hcells : ∀ wq, Sh.Ke B w wq → ∀ (j : Nat) (s : Pp.Bs), ws[j]? = some s → wq.cell? ⟨g, o + j, none⟩ = some (.string ⟨s.toArray⟩))
    (hn : ws.length ≤ 1000000) (hle : l.length + (Pp.sayL ws).length ≤ 1000000000) :
    Calls Tryd.prog 35 #[.pointer (some ⟨b, 0, none⟩), .slice (some ⟨g, o, none⟩) ws.length c] w fun e w' => e = .returned (.tuple #[]) ∧ (∃ v', Sh.Wr B w' b (l ++ Pp.sayL ws) v') ∧ Sh.Ke B w w' := by
  obtain ⟨i0, hi, hz0, hz1, hz2⟩ := Sh.info_of Sh.u8_info
  obtain ⟨len, hlen⟩ : ∃ len, len = ws.length := ⟨_, rfl⟩
  have HL := hide hlen
  rw [← hlen] at hn ⊢
  clear hlen
  have HC := hide hcells
  have HW := hide hw
  have HLE := hide hle
  clear hcells hw hle
  go_enter Tryd.func35, Tryd.ntmps35
  go_wp2_with fail
  go_loopw [8] (fun i wr => ∃ (k : Nat) (v : Value), k ≤ len ∧ i = .int .i64 k ∧ Sh.Wr B wr b (l ++ Pp.sayL (ws.take k)) v ∧ Sh.Ke B w wr) (fun i _ => len - (intOf i).toNat)
  case atStart => exact ⟨0, v, Nat.zero_le _, rfl, by simpa [Pp.sayL] using HW.out, Sh.Ke.refl _ _⟩
  case round =>
    obtain ⟨k, v0, hk, rfl, hwr, hke⟩ := hrel
    by_cases hlt : k < len
    · obtain ⟨s, hs⟩ : ∃ s, ws[k]? = some s := ⟨ws[k]'(by rw [← HL.out]; exact hlt), List.getElem?_eq_getElem _⟩
      have r0 := HC.out wr hke k s hs
      have HS := hide (Sh.sayL_take hs)
      have HLl : Hid ((l ++ Pp.sayL (ws.take k)).length + s.length + 1 ≤ 1000000000) := hide (by
        have h1 := Sh.sayL_le (ws := ws) (k + 1)
        rw [HS.out] at h1
        have h2 := HLE.out
        simp only [List.length_append, List.length_cons, List.length_nil] at h1 ⊢
        omega)
      have HA0 : Hid (l ++ Pp.sayL (ws.take (k + 1)) = ((l ++ Pp.sayL (ws.take k)) ++ s) ++ [Pp.behL s]) := hide (by rw [HS.out]; simp only [List.append_assoc])
      generalize l ++ Pp.sayL (ws.take k) = acc at *
      obtain ⟨a0, c0, rfl⟩ := Sh.own_shape hwr.2.2.2
      have c1 := hwr.cell
      have HWR := hide hwr
      have HKE := hide hke
      have hown := hwr.2.2.2
      have HBH := hide (fun w => behind_any s w)
      have HSL := hide (Sh.str_sz s)
      clear hwr hke hs
      have hlt' : (k : Int) < (len : Int) := by omega
      go_wp2_with (at_builtin; refine Lib.wpList_append_own_string _ rfl (.tmp 16) (.tmp 17) 29 9 rfl B 5 i0 Tryd.underlying29 Tryd.underlying9 hi hz0 hz1 hz2 _ _ _ rfl hown ⟨s.toArray⟩ rfl ?c1 ?c2 ?c3 ?_)
      case c1 => have := HSL.out; have := HLl.out; unfold maxLen; omega
      case c2 => have := HSL.out; have := HLl.out; omega
      case c3 => exact HWR.out.2.1
      · intro v' w2 hown2 hg2 _
        obtain ⟨hb2, hk2, hs2⟩ := HWR.out.grown hg2
        have hown3 : w2.ownsRow B 5 1 v' (acc.length + s.length) ((acc ++ s).map Sh.byV) := by
          rw [List.map_append]; exact hown2
        obtain ⟨a1, c1', rfl⟩ := Sh.own_shape hown2
        have hW3 := Sh.Wr.put (l := acc ++ s) HWR.out.1 (Nat.le_trans HWR.out.2.1 hs2) hb2 hown3 (by rw [List.length_append])
        have hK3 := (HKE.out.trans hk2).trans (Sh.Ke.set HWR.out.1 hb2 0 (.slice a1 (acc.length + s.length) c1'))
        have d1 : w2.cell? ⟨b, 0, none⟩ = some (.slice a0 acc.length c0) := cell_box hb2 0
        have f1 := Sh.fz_blk hb2 0
        have HW3 := hide hW3
        have HK3 := hide hK3
        clear hW3 hK3 hk2 hs2 hb2 hown3 hown2 hg2 hown HWR HKE c1
        go_wp2_with fail
        clear d1 f1
        generalize w2.setCell ⟨b, 0, none⟩ (.slice a1 (acc.length + s.length) c1') = w3 at *
        have d3 := HW3.out.cell
        have f3 := Sh.fz_blk HW3.out.2.2.1 0
        have HLn : Hid ((acc ++ s).length = acc.length + s.length) := hide (by rw [List.length_append])
        have HA : Hid (l ++ Pp.sayL (ws.take (k + 1)) = (acc ++ s) ++ [Pp.behL s]) := HA0.out
        clear HA0 HS
        generalize acc ++ s = acc2 at *
        have HLl2 : Hid (acc.length + s.length + 1 ≤ 1000000000) := HLl
        generalize acc.length + s.length = n1 at *
        clear HLl HSL
        generalize (⟨s.toArray⟩ : ByteArray) = S at *
        generalize Pp.behL s = bh at *
        have HOx := hide ((HW3.out.alloc (.cells #[.int .u8 (bh.toNat : Int)] 5)).drew.2.2.2)
        rw [HLn.out] at HOx
        have HWx := hide ((HW3.out.alloc (.cells #[.int .u8 (bh.toNat : Int)] 5)).drew)
        have d4 := (HW3.out.alloc (.cells #[.int .u8 (bh.toNat : Int)] 5)).cell
        have HN : Hid (∀ j u, [Value.int .u8 (bh.toNat : Int)][j]? = some u → (w3.alloc (.cells #[.int .u8 (bh.toNat : Int)] 5)).drew.cell? ((⟨w3.heap.size, 0, none⟩ : Addr).add j) = some u) := hide (by
          intro j u hj
          rw [Go.WideShapes.add_plain, Nat.zero_add, cell_box (w := (w3.alloc (.cells #[.int .u8 (bh.toNat : Int)] 5)).drew) (t := 5) (f := (0, 0)) (c := #[.int .u8 (bh.toNat : Int)]) (heap_alloc_new w3 _)]
          simpa using hj)
        have HN1 : Hid (∀ u ∈ ([.int .u8 (bh.toNat : Int)] : List Value), u.oneCell' = true) := hide (by intro u hu; simp at hu; subst hu; rfl)
        go_region_law (first | (refine Sh.step_append_own rfl (.tmp 25) (.tmp 28) 29 rfl B 5 i0 (.int .u8 0) 1 1 Tryd.underlying29 hi hz0 hz1 hz2 rfl (by decide) (.slice a1 n1 c1') n1 (acc2.map Sh.byV) (by simp [Act.eval, Act.put]) HOx.out ⟨w3.heap.size, 0, none⟩ 1 1 [.int .u8 (bh.toNat : Int)] (by simp [Act.eval, Act.put]) rfl HN.out HN1.out (by have := HLl2.out; unfold maxLen; omega) (by have := HLl2.out; omega) HWx.out.2.1 ?_; intro v9 w9 hown9 hg9; obtain ⟨hb9, hk9, hs9⟩ := HWx.out.grown hg9; have d9 : w9.cell? ⟨b, 0, none⟩ = some (.slice a1 n1 c1') := cell_box hb9 0; have f9 := Sh.fz_blk hb9 0; have A9 := hide (And.intro hown9 (And.intro hb9 (And.intro hk9 hs9))); obtain ⟨a9, c9, rfl⟩ := Sh.own_shape hown9; clear hown9 hb9 hk9 hs9 hg9) | (go_simp; refine (HBH.out _).mono ?_; rintro e w7 ⟨rfl, hw7⟩; subst hw7))
        all_goals
          have hO : w9.ownsRow B 5 1 (.slice a9 (n1 + 1) c9) (n1 + 1) ((acc2 ++ [bh]).map Sh.byV) := by
            rw [List.map_append]; exact A9.out.1
          have hW := hide (Sh.Wr.put (l := acc2 ++ [bh]) HWx.out.1 (Nat.le_trans HWx.out.2.1 A9.out.2.2.2) A9.out.2.1 hO (by rw [List.length_append, HLn.out]; rfl))
          have hK := hide ((((HK3.out.trans (Sh.Ke.alloc HW3.out.2.1 (.cells #[.int .u8 (bh.toNat : Int)] 5))).trans (Sh.Ke.drew _ _)).trans A9.out.2.2.1).trans (Sh.Ke.set HWx.out.1 A9.out.2.1 0 (.slice a9 (n1 + 1) c9)))
          rw [← HA.out] at hW
          clear hO A9 HA HWx HW3 HK3 d9 f9 d3 f3 d4 HN HN1 HOx
          go_wp2_with fail
          go_roundw
          case rel => exact ⟨k + 1, _, by omega, by go_num, hW.out, hK.out⟩
          case measure => simp [intOf]; omega
    · go_wp2_with fail
      refine bodyPost_end (v := .tuple #[]) (by simp [results, Tryd.results35, go_sem]) rfl ⟨rfl, ⟨v0, ?_⟩, hke⟩
      rw [List.take_of_length_le (by rw [← HL.out]; omega)] at hwr
      exact hwr

end Go.Proofs.YtdgfidaopkcjoaaDoor

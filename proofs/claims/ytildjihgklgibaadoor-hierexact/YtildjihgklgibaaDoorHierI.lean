/- Rows copied by 'copy' into a row of the call's own, whatever an item's size. -/
import Derived.Test.YtildjihgklgibaaDoorTwinC
import Derived.Laws.CopyOwn
import Derived.OwnWalk
namespace Go.Proofs.YtildjihgklgibaaDoor
open Go.RowKit
set_option linter.unusedVariables false
set_option linter.unusedSimpArgs false
namespace Ow
theorem run_copy_any {P : Program} (w : World) (dT sT ty elem : TypeId) (sz g dLen dCap : Nat) (a : Addr) (sLen sCap : Nat) (cur : Array Value) (t : TypeId) (cs : List Value)
    (hu : P.underlying dT = some (.slice elem)) (hs : (P.info? elem).map (·.size) = some sz)
    (hg : w.heap[g]? = some (.cells cur t (0, 0))) (hn : cs.length = Nat.min sLen dLen * sz)
    (hsrc : ∀ j v, cs[j]? = some v → w.cell? (a.add j) = some v) (hfit : cs.length ≤ cur.size) (h1 : ∀ v ∈ cs, v.oneCell' = true) :
    (Builtin.copy_ #[dT, sT] ty #[.slice (some ⟨g, 0, none⟩) dLen dCap, .slice (some a) sLen sCap]).run P w =
      .ok (goInt (Nat.min sLen dLen)) (w.setRow g (cs ++ cur.toList.drop cs.length).toArray) := by
  have hl := run_loadCells_list (P := P) w a cs hsrc
  have hst := run_storeCells_at P g 0 t cs 0 cur w hg (by simpa using hfit) h1
  cases hq : P.info? elem with
  | none => simp [hq] at hs
  | some i =>
    have hi : i.size = sz := by simpa [hq] using hs
    simp only [Nat.zero_add, Nat.add_zero, List.take_zero, List.nil_append] at hst
    simp [Builtin.copy_, run_underlying hu, Builtin.lenOf, Builtin.firstCells, sizeOf, typeInfo, hq, hi, ← hn, hl, hst]
theorem wpList_mk {P : Program} (w : World) {ops : Array Oper} {rest : List Oper} {o : Oper} {a : Act} {Q : Exit → Act → World → Prop}
    (hg : o.guard = none) (l c : Operand) (t : TypeId) (hop : o.op = Op.makeSlice t l c)
    (base : Nat) (e : TypeId) (size bytes : Nat) (h1 : P.underlying t = some (.slice e)) (h2 : ∃ i z, P.info? e = some i ∧ i.zero = some z ∧ i.size = size ∧ i.bytes = bytes)
    (kl kc : IntKind) (L C : Int) (n : Nat) (hl : a.eval l = .int kl L) (hc : a.eval c = .int kc C) (hL : L = (n : Int)) (hC : C = (n : Int)) (b2 : bytes * n ≤ 281474976710656) (b3 : n ≤ maxLen) (b4 : base ≤ w.heap.size)
    (hK : ∀ w', (∃ xs, w'.ownsRow base e size (.slice (some ⟨w.heap.size, 0, none⟩) n n) n xs) → w.grownBy w' none → wpList P ops Q rest (a.put o.dst (.slice (some ⟨w.heap.size, 0, none⟩) n n)) w') :
    wpList P ops Q (o :: rest) a w := by
  obtain ⟨i, z, e1, e2, e3, e4⟩ := h2
  exact wpList_make_full w hg l c t hop base e i z size h1 e1 e2 e3 kl kc L C n hl hc hL hC (by rw [e4]; exact b2) b3 b4 (fun w' h g => hK w' ⟨_, h⟩ g)
section
variable {α : Type} {P : α → List Value → Prop} {sz base e : Nat} {w : World} {l : List α}
theorem wpList_cpy {Pr : Program} {ops : Array Oper} {rest : List Oper} {o : Oper} {a : Act} {Q : Exit → Act → World → Prop} (hgd : o.guard = none) (d s : Operand) (t : TypeId)
    (hop : o.op = .call { callee := .builtin .copy, args := #[d, s], argTypes := #[t, t] }) {n g : Nat} {v2 : Value} {xs : List Value}
    (ht : Pr.underlying t = some (.slice e)) (hs : (Pr.info? e).map (·.size) = some sz) (hp : Shp P sz)
    (hd : a.eval d = .slice (some ⟨g, 0, none⟩) n n) (ho : w.ownsRow base e sz (.slice (some ⟨g, 0, none⟩) n n) n xs) (hv2 : a.eval s = v2) (hr : RowX w sz P v2 l) (hl : l.length = n) (hpos : 0 < n)
    (h : ∀ w', OwnX w' base e sz P (.slice (some ⟨g, 0, none⟩) n n) l → w.grownBy w' (some g) → wpList Pr ops Q rest (a.put o.dst (goInt n)) w') : wpList Pr ops Q (o :: rest) a w := by
  obtain ⟨ra, rc, rfl, _, hr⟩ := hr
  rcases hr with rfl | ⟨b, ro, rfl, hlt, hx⟩
  · simp at hl; omega
  · obtain ⟨news, hf, hc⟩ := flat_of hp l ro hx
    obtain ⟨hxl, ho⟩ := ho
    rcases ho with ⟨e0, _⟩ | ⟨g', cap, cur, e0, hb, hg, hnc, hm, hcs, htk⟩
    · cases e0
    · cases e0
      have hlen := hf.len hp
      have hmin : Nat.min l.length n = n := by rw [hl]; exact Nat.min_self n
      have hrun := run_copy_any (P := Pr) w t t o.type e sz g n n ⟨b, ro, none⟩ l.length rc cur e news ht hs hg (by rw [hmin, hlen, hl]) (fun j u hj => by rw [Go.WideShapes.add_plain]; exact hc j u hj) (by rw [hlen, hl, hcs]; exact Nat.le_refl _) (hf.ones hp)
      rw [hmin] at hrun
      refine wpList_plain hgd fun K hK => ?_
      unfold Oper.wp execOp
      simp only [hop, resolve, invoke, builtin, Sem.run_bind, Sem.run_pure, Result.andThen_ok, List.map_toArray, List.map_cons, List.map_nil, hd, hv2, hrun]
      refine hK _ _ (h _ ?_ ?_)
      · refine ⟨news, hf, hlen, .inr ⟨g, n, _, by rw [hl], hb, setRow_heap w g _ _ e _ hg, by rw [hl]; exact Nat.le_refl _, hm, ?_, ?_⟩⟩
        · have hz : (news ++ cur.toList.drop news.length).length = n * sz := by
            rw [List.length_append, List.length_drop, hlen, hl, Array.length_toList, hcs]; omega
          simpa using hz
        · rw [← hlen]; simp
      · exact ⟨rfl, rfl, rfl, by simp [World.setRow], fun k hk hne => setRow_other w g k _ (by intro e2; subst e2; exact hne rfl)⟩
end
end Ow
namespace Ow2
end Ow2
theorem Ow.shp_mthx (w : World) : Ow.Shp (MthX w) 9 := by
  rintro x ys ⟨vp, vc, vk, rfl, h1, h2, h3, _⟩
  obtain ⟨_, _, rfl, _⟩ := h1.len
  obtain ⟨_, _, rfl, _⟩ := h2.len
  obtain ⟨_, _, rfl, _⟩ := h3.len
  exact ⟨rfl, by intro u hu; simp [mthXL] at hu; rcases hu with rfl | rfl | rfl | rfl | rfl | rfl | rfl | rfl | rfl <;> rfl⟩
theorem Ow.info_z {P : Program} {t : TypeId} {s z b : Nat} (h : (P.info? t).map (fun i => (i.zero.map (fun z => z.cells.size), i.size, i.bytes)) = some (some z, s, b)) : ∃ i z', P.info? t = some i ∧ i.zero = some z' ∧ i.size = s ∧ i.bytes = b := by
  cases hi : P.info? t with
  | none => rw [hi] at h; cases h
  | some i =>
    rw [hi] at h
    simp only [Option.map_some, Option.some.injEq, Prod.mk.injEq] at h
    cases hz : i.zero with
    | none => rw [hz] at h; cases h.1
    | some z' => exact ⟨i, z', rfl, hz, h.2.1, h.2.2⟩

set_option maxRecDepth 100000 in
set_option maxHeartbeats 4000000 in
theorem cpy_str (l : List Pp.Bs) (v : Value) (w : World) (h : RowX w 1 StrX v l) (hn : l.length ≤ 100000) :
    Calls Tryd.prog 47 #[v] w fun e w' => ∃ v', e = .returned v' ∧ Ow.OwnX w' w.heap.size 9 1 StrX v' l ∧ Below w.heap.size w w' := by
  have HR := hide h
  obtain ⟨a, c, rfl, _⟩ := h.len
  obtain ⟨n, hl⟩ : ∃ n, n = l.length := ⟨_, rfl⟩
  have HL := hide hl
  rw [← hl] at hn HR ⊢
  clear h hl
  by_cases h0 : n = 0
  · subst h0
    have HN : Hid (l = []) := hide (List.length_eq_zero_iff.1 HL.out.symm)
    go_enter Tryd.func47, Tryd.ntmps47
    go_wp2_with fail
    go_ret
    rw [HN.out]
    exact ⟨_, rfl, Ow.OwnX.nil _ _ _ _ _, Below.refl _ _⟩
  · have hne : (n : Int) ≠ 0 := by omega
    have HI := hide (Ow.info_z Ow.i_str)
    have HSZ : Hid ((Tryd.prog.info? 9).map (·.size) = some 1) := hide (by obtain ⟨i0, z0, hi, hz, hz1, hz2⟩ := HI.out; rw [hi, Option.map_some, hz1])
    go_enter Tryd.func47, Tryd.ntmps47
    go_wp2_with (at_make; refine Ow.wpList_mk _ rfl _ _ 29 rfl w.heap.size 9 1 16 Tryd.underlying29 HI.out .i64 .i64 _ _ n rfl rfl rfl rfl (by omega) (by unfold maxLen; omega) (Nat.le_refl _) ?_)
    intro w1 xs hown1 hgrow1
    have hB1 : Below w.heap.size w w1 := Below.grown (Below.refl _ _) hgrow1 (Nat.le_refl _) (fun k hk => by cases hk)
    have HO := hide hown1
    have HB1 := hide hB1
    have HR1 := hide (HR.out.on hB1 fun _ _ h => h)
    clear hown1 hgrow1 hB1
    go_wp2_with (refine Ow.wpList_cpy rfl (.tmp 10) (.tmp 11) 29 rfl (base := w.heap.size) Tryd.underlying29 HSZ.out Ow.shp_str rfl HO.out rfl HR1.out HL.out.symm (by omega) ?_)
    intro w2 hown2 hgrow2
    have HB2 := hide (Below.grown HB1.out hgrow2 HB1.out.size (fun k hk => by cases hk; exact Nat.le_refl _))
    have HO2 := hide hown2
    clear hown2 hgrow2
    go_wp2_with fail
    go_ret
    exact ⟨_, rfl, HO2.out, HB2.out⟩

set_option maxRecDepth 100000 in
set_option maxHeartbeats 4000000 in
theorem cpy_fld (l : List Pp.Fld) (v : Value) (w : World) (h : RowX w 4 FldX v l) (hn : l.length ≤ 100000) :
    Calls Tryd.prog 48 #[v] w fun e w' => ∃ v', e = .returned v' ∧ Ow.OwnX w' w.heap.size 57 4 FldX v' l ∧ Below w.heap.size w w' := by
  have HR := hide h
  obtain ⟨a, c, rfl, _⟩ := h.len
  obtain ⟨n, hl⟩ : ∃ n, n = l.length := ⟨_, rfl⟩
  have HL := hide hl
  rw [← hl] at hn HR ⊢
  clear h hl
  by_cases h0 : n = 0
  · subst h0
    have HN : Hid (l = []) := hide (List.length_eq_zero_iff.1 HL.out.symm)
    go_enter Tryd.func48, Tryd.ntmps48
    go_wp2_with fail
    go_ret
    rw [HN.out]
    exact ⟨_, rfl, Ow.OwnX.nil _ _ _ _ _, Below.refl _ _⟩
  · have hne : (n : Int) ≠ 0 := by omega
    have HI := hide (Ow.info_z Ow.i_fld)
    have HSZ : Hid ((Tryd.prog.info? 57).map (·.size) = some 4) := hide (by obtain ⟨i0, z0, hi, hz, hz1, hz2⟩ := HI.out; rw [hi, Option.map_some, hz1])
    go_enter Tryd.func48, Tryd.ntmps48
    go_wp2_with (at_make; refine Ow.wpList_mk _ rfl _ _ 30 rfl w.heap.size 57 4 48 Tryd.underlying30 HI.out .i64 .i64 _ _ n rfl rfl rfl rfl (by omega) (by unfold maxLen; omega) (Nat.le_refl _) ?_)
    intro w1 xs hown1 hgrow1
    have hB1 : Below w.heap.size w w1 := Below.grown (Below.refl _ _) hgrow1 (Nat.le_refl _) (fun k hk => by cases hk)
    have HO := hide hown1
    have HB1 := hide hB1
    have HR1 := hide (HR.out.on hB1 fun _ _ h => h)
    clear hown1 hgrow1 hB1
    go_wp2_with (refine Ow.wpList_cpy rfl (.tmp 10) (.tmp 11) 30 rfl (base := w.heap.size) Tryd.underlying30 HSZ.out Ow.shp_fld rfl HO.out rfl HR1.out HL.out.symm (by omega) ?_)
    intro w2 hown2 hgrow2
    have HB2 := hide (Below.grown HB1.out hgrow2 HB1.out.size (fun k hk => by cases hk; exact Nat.le_refl _))
    have HO2 := hide hown2
    clear hown2 hgrow2
    go_wp2_with fail
    go_ret
    exact ⟨_, rfl, HO2.out, HB2.out⟩

set_option maxRecDepth 100000 in
set_option maxHeartbeats 4000000 in
theorem cpy_mth (wp : World) (l : List Pp.XMth) (v : Value) (w : World) (h : RowX w 9 (MthX wp) v l) (hn : l.length ≤ 100000) :
    Calls Tryd.prog 49 #[v] w fun e w' => ∃ v', e = .returned v' ∧ Ow.OwnX w' w.heap.size 62 9 (MthX wp) v' l ∧ Below w.heap.size w w' := by
  have HR := hide h
  obtain ⟨a, c, rfl, _⟩ := h.len
  obtain ⟨n, hl⟩ : ∃ n, n = l.length := ⟨_, rfl⟩
  have HL := hide hl
  rw [← hl] at hn HR ⊢
  clear h hl
  by_cases h0 : n = 0
  · subst h0
    have HN : Hid (l = []) := hide (List.length_eq_zero_iff.1 HL.out.symm)
    go_enter Tryd.func49, Tryd.ntmps49
    go_wp2_with fail
    go_ret
    rw [HN.out]
    exact ⟨_, rfl, Ow.OwnX.nil _ _ _ _ _, Below.refl _ _⟩
  · have hne : (n : Int) ≠ 0 := by omega
    have HI := hide (Ow.info_z Ow.i_mth)
    have HSZ : Hid ((Tryd.prog.info? 62).map (·.size) = some 9) := hide (by obtain ⟨i0, z0, hi, hz, hz1, hz2⟩ := HI.out; rw [hi, Option.map_some, hz1])
    go_enter Tryd.func49, Tryd.ntmps49
    go_wp2_with (at_make; refine Ow.wpList_mk _ rfl _ _ 31 rfl w.heap.size 62 9 128 Tryd.underlying31 HI.out .i64 .i64 _ _ n rfl rfl rfl rfl (by omega) (by unfold maxLen; omega) (Nat.le_refl _) ?_)
    intro w1 xs hown1 hgrow1
    have hB1 : Below w.heap.size w w1 := Below.grown (Below.refl _ _) hgrow1 (Nat.le_refl _) (fun k hk => by cases hk)
    have HO := hide hown1
    have HB1 := hide hB1
    have HR1 := hide (HR.out.on hB1 fun _ _ h => h)
    clear hown1 hgrow1 hB1
    go_wp2_with (refine Ow.wpList_cpy rfl (.tmp 10) (.tmp 11) 31 rfl (base := w.heap.size) Tryd.underlying31 HSZ.out (Ow.shp_mthx wp) rfl HO.out rfl HR1.out HL.out.symm (by omega) ?_)
    intro w2 hown2 hgrow2
    have HB2 := hide (Below.grown HB1.out hgrow2 HB1.out.size (fun k hk => by cases hk; exact Nat.le_refl _))
    have HO2 := hide hown2
    clear hown2 hgrow2
    go_wp2_with fail
    go_ret
    exact ⟨_, rfl, HO2.out, HB2.out⟩

set_option maxRecDepth 100000 in
set_option maxHeartbeats 4000000 in
theorem cpy_ty (l : List Pp.Ty) (v : Value) (w : World) (h : RowX w 2 TyX v l) (hn : l.length ≤ 100000) :
    Calls Tryd.prog 50 #[v] w fun e w' => ∃ v', e = .returned v' ∧ Ow.OwnX w' w.heap.size 55 2 TyX v' l ∧ Below w.heap.size w w' := by
  have HR := hide h
  obtain ⟨a, c, rfl, _⟩ := h.len
  obtain ⟨n, hl⟩ : ∃ n, n = l.length := ⟨_, rfl⟩
  have HL := hide hl
  rw [← hl] at hn HR ⊢
  clear h hl
  by_cases h0 : n = 0
  · subst h0
    have HN : Hid (l = []) := hide (List.length_eq_zero_iff.1 HL.out.symm)
    go_enter Tryd.func50, Tryd.ntmps50
    go_wp2_with fail
    go_ret
    rw [HN.out]
    exact ⟨_, rfl, Ow.OwnX.nil _ _ _ _ _, Below.refl _ _⟩
  · have hne : (n : Int) ≠ 0 := by omega
    have HI := hide (Ow.info_z Ow.i_ty)
    have HSZ : Hid ((Tryd.prog.info? 55).map (·.size) = some 2) := hide (by obtain ⟨i0, z0, hi, hz, hz1, hz2⟩ := HI.out; rw [hi, Option.map_some, hz1])
    go_enter Tryd.func50, Tryd.ntmps50
    go_wp2_with (at_make; refine Ow.wpList_mk _ rfl _ _ 58 rfl w.heap.size 55 2 24 Tryd.underlying58 HI.out .i64 .i64 _ _ n rfl rfl rfl rfl (by omega) (by unfold maxLen; omega) (Nat.le_refl _) ?_)
    intro w1 xs hown1 hgrow1
    have hB1 : Below w.heap.size w w1 := Below.grown (Below.refl _ _) hgrow1 (Nat.le_refl _) (fun k hk => by cases hk)
    have HO := hide hown1
    have HB1 := hide hB1
    have HR1 := hide (HR.out.on hB1 fun _ _ h => h)
    clear hown1 hgrow1 hB1
    go_wp2_with (refine Ow.wpList_cpy rfl (.tmp 10) (.tmp 11) 58 rfl (base := w.heap.size) Tryd.underlying58 HSZ.out Ow.shp_ty rfl HO.out rfl HR1.out HL.out.symm (by omega) ?_)
    intro w2 hown2 hgrow2
    have HB2 := hide (Below.grown HB1.out hgrow2 HB1.out.size (fun k hk => by cases hk; exact Nat.le_refl _))
    have HO2 := hide hown2
    clear hown2 hgrow2
    go_wp2_with fail
    go_ret
    exact ⟨_, rfl, HO2.out, HB2.out⟩

set_option maxRecDepth 100000 in
set_option maxHeartbeats 4000000 in
theorem cpy_ins (l : List Pp.XIns) (v : Value) (w : World) (h : RowX w 4 InsX v l) (hn : l.length ≤ 100000) :
    Calls Tryd.prog 51 #[v] w fun e w' => ∃ v', e = .returned v' ∧ Ow.OwnX w' w.heap.size 64 4 InsX v' l ∧ Below w.heap.size w w' := by
  have HR := hide h
  obtain ⟨a, c, rfl, _⟩ := h.len
  obtain ⟨n, hl⟩ : ∃ n, n = l.length := ⟨_, rfl⟩
  have HL := hide hl
  rw [← hl] at hn HR ⊢
  clear h hl
  by_cases h0 : n = 0
  · subst h0
    have HN : Hid (l = []) := hide (List.length_eq_zero_iff.1 HL.out.symm)
    go_enter Tryd.func51, Tryd.ntmps51
    go_wp2_with fail
    go_ret
    rw [HN.out]
    exact ⟨_, rfl, Ow.OwnX.nil _ _ _ _ _, Below.refl _ _⟩
  · have hne : (n : Int) ≠ 0 := by omega
    have HI := hide (Ow.info_z Ow.i_ins)
    have HSZ : Hid ((Tryd.prog.info? 64).map (·.size) = some 4) := hide (by obtain ⟨i0, z0, hi, hz, hz1, hz2⟩ := HI.out; rw [hi, Option.map_some, hz1])
    go_enter Tryd.func51, Tryd.ntmps51
    go_wp2_with (at_make; refine Ow.wpList_mk _ rfl _ _ 59 rfl w.heap.size 64 4 48 Tryd.underlying59 HI.out .i64 .i64 _ _ n rfl rfl rfl rfl (by omega) (by unfold maxLen; omega) (Nat.le_refl _) ?_)
    intro w1 xs hown1 hgrow1
    have hB1 : Below w.heap.size w w1 := Below.grown (Below.refl _ _) hgrow1 (Nat.le_refl _) (fun k hk => by cases hk)
    have HO := hide hown1
    have HB1 := hide hB1
    have HR1 := hide (HR.out.on hB1 fun _ _ h => h)
    clear hown1 hgrow1 hB1
    go_wp2_with (refine Ow.wpList_cpy rfl (.tmp 10) (.tmp 11) 59 rfl (base := w.heap.size) Tryd.underlying59 HSZ.out Ow.shp_ins rfl HO.out rfl HR1.out HL.out.symm (by omega) ?_)
    intro w2 hown2 hgrow2
    have HB2 := hide (Below.grown HB1.out hgrow2 HB1.out.size (fun k hk => by cases hk; exact Nat.le_refl _))
    have HO2 := hide hown2
    clear hown2 hgrow2
    go_wp2_with fail
    go_ret
    exact ⟨_, rfl, HO2.out, HB2.out⟩

set_option maxRecDepth 100000 in
set_option maxHeartbeats 4000000 in
theorem cpy_ctc (l : List Pp.Ctc) (v : Value) (w : World) (h : RowX w 4 CtcX v l) (hn : l.length ≤ 100000) :
    Calls Tryd.prog 52 #[v] w fun e w' => ∃ v', e = .returned v' ∧ Ow.OwnX w' w.heap.size 66 4 CtcX v' l ∧ Below w.heap.size w w' := by
  have HR := hide h
  obtain ⟨a, c, rfl, _⟩ := h.len
  obtain ⟨n, hl⟩ : ∃ n, n = l.length := ⟨_, rfl⟩
  have HL := hide hl
  rw [← hl] at hn HR ⊢
  clear h hl
  by_cases h0 : n = 0
  · subst h0
    have HN : Hid (l = []) := hide (List.length_eq_zero_iff.1 HL.out.symm)
    go_enter Tryd.func52, Tryd.ntmps52
    go_wp2_with fail
    go_ret
    rw [HN.out]
    exact ⟨_, rfl, Ow.OwnX.nil _ _ _ _ _, Below.refl _ _⟩
  · have hne : (n : Int) ≠ 0 := by omega
    have HI := hide (Ow.info_z Ow.i_ctc)
    have HSZ : Hid ((Tryd.prog.info? 66).map (·.size) = some 4) := hide (by obtain ⟨i0, z0, hi, hz, hz1, hz2⟩ := HI.out; rw [hi, Option.map_some, hz1])
    go_enter Tryd.func52, Tryd.ntmps52
    go_wp2_with (at_make; refine Ow.wpList_mk _ rfl _ _ 60 rfl w.heap.size 66 4 40 Tryd.underlying60 HI.out .i64 .i64 _ _ n rfl rfl rfl rfl (by omega) (by unfold maxLen; omega) (Nat.le_refl _) ?_)
    intro w1 xs hown1 hgrow1
    have hB1 : Below w.heap.size w w1 := Below.grown (Below.refl _ _) hgrow1 (Nat.le_refl _) (fun k hk => by cases hk)
    have HO := hide hown1
    have HB1 := hide hB1
    have HR1 := hide (HR.out.on hB1 fun _ _ h => h)
    clear hown1 hgrow1 hB1
    go_wp2_with (refine Ow.wpList_cpy rfl (.tmp 10) (.tmp 11) 60 rfl (base := w.heap.size) Tryd.underlying60 HSZ.out Ow.shp_ctc rfl HO.out rfl HR1.out HL.out.symm (by omega) ?_)
    intro w2 hown2 hgrow2
    have HB2 := hide (Below.grown HB1.out hgrow2 HB1.out.size (fun k hk => by cases hk; exact Nat.le_refl _))
    have HO2 := hide hown2
    clear hown2 hgrow2
    go_wp2_with fail
    go_ret
    exact ⟨_, rfl, HO2.out, HB2.out⟩
end Go.Proofs.YtildjihgklgibaaDoor

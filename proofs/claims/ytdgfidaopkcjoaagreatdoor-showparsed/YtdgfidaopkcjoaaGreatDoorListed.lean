/- What listed answers, of names and of types. -/
import Derived.Test.YtdgfidaopkcjoaaGreatDoorFldCtc
import Derived.WideShapes
namespace Go.Proofs.YtdgfidaopkcjoaaGreatDoor
open Go.RowKit
set_option linter.unusedVariables false
set_option linter.unusedSimpArgs false

theorem Tryz.info9 : (Tryz.prog.info? 9).map (fun i => (i.zero, i.size, i.bytes)) = some (some (.string ⟨#[]⟩), 1, 16) := by kernel_rfl
theorem Tryz.info43 : (Tryz.prog.info? 43).map (fun i => (i.zero, i.size, i.bytes)) = some (some (.agg #[.int .i64 0, .string ⟨#[]⟩]), 2, 24) := by kernel_rfl
def lenV : Value → Nat | .slice _ n _ => n | _ => 0
def strCells (l : List Pp.Bs) : List Value := l.flatMap fun x => [.string ⟨x.toArray⟩]
def tysCells (l : List Pp.Ty) : List Value := l.flatMap fun x => [.int .i64 x.kind, .string ⟨x.name.toArray⟩]
theorem strCells_app (l : List Pp.Bs) (x : Pp.Bs) : strCells (l ++ [x]) = strCells l ++ [.string ⟨x.toArray⟩] := by simp [strCells]
theorem tysCells_app (l : List Pp.Ty) (x : Pp.Ty) : tysCells (l ++ [x]) = tysCells l ++ [.int .i64 x.kind, .string ⟨x.name.toArray⟩] := by simp [tysCells]
theorem own_shapeV {w : World} {base e size : Nat} {v : Value} {n : Nat} {xs : List Value} (h : w.ownsRow base e size v n xs) : ∃ a cap, v = .slice a n cap := by
  rcases h.2 with ⟨rfl, rfl⟩ | ⟨g, cap, cur, rfl, _⟩
  · exact ⟨none, 0, rfl⟩
  · exact ⟨_, cap, rfl⟩
theorem own_len {w : World} {base e size : Nat} {v : Value} {n : Nat} {xs : List Value} (h : w.ownsRow base e size v n xs) : lenV v = n := by
  obtain ⟨a, c, rfl⟩ := own_shapeV h; rfl
theorem own_new (w : World) (base : Nat) (e size : Nat) (c : Array Value) (hb : base ≤ w.heap.size) (hs : c.size = 1 * size) (hl : c.toList.length = c.size) : (w.alloc (.cells c e)).ownsRow base e size (.slice (some ⟨w.heap.size, 0, none⟩) 1 1) 1 c.toList :=
  ⟨by rw [hl, hs], .inr ⟨w.heap.size, 1, c, rfl, hb, heap_alloc_new w _, Nat.le_refl _, by unfold maxLen; omega, hs, by rw [← hs, ← hl]; exact List.take_length⟩⟩
theorem own_at {w : World} {base e size : Nat} {v : Value} {n : Nat} {xs : List Value} (h : w.ownsRow base e size v n xs) (k : Nat) (hk : v.ownBlock = some k) : ∃ c, w.heap[k]? = some (.cells c e (0, 0)) := by
  rcases h.2 with ⟨rfl, _⟩ | ⟨g, cap, cur, rfl, hb, hg, r⟩
  · cases hk
  · cases hk; exact ⟨cur, hg⟩
theorem Rd.grown {w w' : World} {b : Nat} {C : Cx} {s : Pp.St} {row : Option Nat} (h : Rd w b C s) (hg : w.grownBy w' row) (hr : ∀ k, row = some k → b < k ∧ ∀ c f, w.heap[k]? ≠ some (.cells c 85 f)) : Rd w' b C s := by
  cases row with
  | none => exact h.fr (S := []) ((Fr.refl _ _).grown hg (fun k hk => by cases hk)) (fun x hx => by cases hx)
  | some k => exact h.fr (S := [k]) ((Fr.refl _ _).grown hg (fun k hk => by cases hk; exact .inl (by simp))) (fun x hx => by simp at hx; subst hx; have := hr x rfl; have := h.hb; exact ⟨by omega, by omega, (hr x rfl).2⟩)
theorem failS_twice (s : Pp.St) : Pp.failS (Pp.failS s 2) 4 = Pp.failS s 2 := by
  by_cases h : s.e = 0
  · simp [Pp.failS, h]
  · simp [Pp.failS, h]

set_option maxRecDepth 100000 in
set_option maxHeartbeats 4000000 in
theorem listedS_any {w : World} {b : Nat} {C : Cx} {s : Pp.St} (h : Rd w b C s) (most : Nat) (hm0 : 0 < most) (hm : most ≤ 100) :
    Calls Tryz.prog 36 #[.pointer (some ⟨b, 0, none⟩), .int .i64 (most : Int), .func (.func 37) #[.pointer (some ⟨b, 0, none⟩)] #[], .func (.func 34) #[.pointer (some ⟨b, 0, none⟩)] #[]] w
      fun e w' => ∃ v, e = .returned v ∧ w'.ownsRow w.heap.size 9 1 v ((Pp.listed Pp.isFresh Pp.fresh most).run C.ws s).1.length (strCells ((Pp.listed Pp.isFresh Pp.fresh most).run C.ws s).1) ∧ Rd w' b C ((Pp.listed Pp.isFresh Pp.fresh most).run C.ws s).2 ∧ Fr [b] w w' := by
  obtain ⟨V, S, hVS⟩ : ∃ V S, (Pp.listed Pp.isFresh Pp.fresh most).run C.ws s = (V, S) := ⟨_, _, rfl⟩
  rw [hVS]
  have HR := hide hVS
  clear hVS
  show Calls _ _ _ _ fun e w' => ∃ v, e = .returned v ∧ w'.ownsRow w.heap.size 9 1 v V.length (strCells V) ∧ Rd w' b C S ∧ Fr [b] w w'
  simp only [Pp.listed, Pp.run_bind] at HR
  have hC1 := hide (fresh_any h)
  have hlt := hide h.lt
  obtain ⟨x, s1, h1⟩ : ∃ r t, Pp.fresh.run C.ws s = (r, t) := ⟨_, _, rfl⟩
  rw [h1] at hC1 HR
  simp only at hC1 HR
  clear h1 h
  skip
  obtain ⟨i0, hi, hz0, hz1, hz2⟩ := info_parts Tryz.info9
  go_enter Tryz.func36, Tryz.ntmps36
  go_wp2_with fail
  refine hC1.out.mono ?_
  rintro e w1 ⟨rfl, hr1, hf1⟩
  have hA1 := hide (hr1.alloc (.cells #[.string ⟨x.toArray⟩] 9))
  have hF1 := hide (hf1.alloc (.cells #[.string ⟨x.toArray⟩] 9))
  have hO1 : Hid ((w1.alloc (.cells #[.string ⟨x.toArray⟩] 9)).ownsRow w.heap.size 9 1 (.slice (some ⟨w1.heap.size, 0, none⟩) 1 1) 1 (strCells [x])) := hide (own_new w1 w.heap.size 9 1 #[.string ⟨x.toArray⟩] hf1.size rfl rfl)
  clear hr1 hf1 hC1
  go_wp2_with fail
  go_loopw [9] (fun v wr => ∃ (n : Nat) (acc : List Pp.Bs) (s' : Pp.St), wr.ownsRow w.heap.size 9 1 v acc.length (strCells acc) ∧ Hid (Rd wr b C s') ∧ Hid (Fr [b] w wr) ∧ acc.length + n = most ∧ Hid ((Pp.listedGo Pp.isFresh Pp.fresh n acc).run C.ws s' = (V, S)))
    (fun v _ => most - lenV v)
  case atStart => exact ⟨most - 1, [x], s1, hO1.out, hA1, hF1, by simp; omega, HR⟩
  case round =>
    obtain ⟨n, acc, s', hown, hrd, hfr, hlen, HR⟩ := hrel
    clear hA1 hF1 hO1
    obtain ⟨a0, c0, rfl⟩ := own_shapeV hown
    have hS := hide (skip_any hrd.out Pp.wComma (by decide))
    rw [skip_run] at hS
    cases hb : Pp.has C.ws s' (Pp.isW Pp.wComma) with
    | false =>
      rw [hb] at hS
      simp only [Bool.false_eq_true, if_false] at hS
      unfold Pp.wComma at hS
      have HE : Hid ((acc, s') = (V, S)) := hide (by rw [← HR.out]; cases n with
        | zero => rw [Pp.listedGo, run_no hb]; rfl
        | succ n => rw [Pp.listedGo, run_no hb]; rfl)
      have HO := hide hown
      clear HR hb hown
      go_wp2_with fail
      refine hS.out.mono ?_
      rintro e w2 ⟨rfl, hr2, hf2⟩
      have HO2 := hide (own_fr HO.out hf2 (fun x hx => .inr fun c f hc => by simp at hx; subst hx; rw [hrd.out.blk] at hc; simp at hc))
      have HR2 := hide hr2
      have HF2 := hide (hfr.out.trans hf2)
      clear hr2 hf2 HO hrd hfr hS
      go_wp2_with fail
      go_ret
      exact ⟨_, rfl, by rw [← (Prod.mk.inj HE.out).1]; exact HO2.out, by rw [← (Prod.mk.inj HE.out).2]; exact HR2.out, HF2.out⟩
    | true =>
      rw [hb] at hS
      simp only [if_true] at hS
      unfold Pp.wComma at hS
      have HO := hide hown
      have HRD := hide hrd.out.blk
      clear hown
      go_wp2_with fail
      refine hS.out.mono ?_
      rintro e w2 ⟨rfl, hr2, hf2⟩
      have HO2 := hide (own_fr HO.out hf2 (fun x hx => .inr fun c f hc => by simp at hx; subst hx; rw [HRD.out] at hc; simp at hc))
      have HF2 := hide (hfr.out.trans hf2)
      have hB := hide (seesFresh_any hr2)
      have HR2 := hide hr2
      clear hr2 hf2 HO hrd hfr hS HRD
      cases hq : Pp.has C.ws s'.adv Pp.isFresh with
      | false =>
        rw [hq] at hB
        have HE : Hid (([], Pp.failS s'.adv 4) = (V, S)) := hide (by rw [← HR.out]; cases n with
          | zero => rw [Pp.listedGo, run_yes hb, peek_no hq]; rfl
          | succ n => rw [Pp.listedGo, run_yes hb, peek_no hq]; rfl)
        clear HR hb hq
        go_wp2_with fail
        refine hB.out.mono ?_
        rintro e w3 ⟨rfl, hb3⟩
        have hM := hide (more_any (HR2.out.below hb3) false acc.length most)
        have HF3 := hide (HF2.out.trans (Fr.ofBelow hb3))
        rw [show moreS s'.adv false acc.length most = s'.adv from by simp [moreS]] at hM
        clear hB hb3 HR2 HF2
        go_wp2_with fail
        refine hM.out.mono ?_
        rintro e w4 ⟨rfl, hr4, hf4⟩
        have hX := hide (fail_any hr4 4 (by decide))
        have HF4 := hide (HF3.out.trans hf4)
        clear hM hr4 hf4 HF3
        go_wp2_with fail
        refine hX.out.mono ?_
        rintro e w5 ⟨rfl, hr5, hf5⟩
        have HR5 := hide hr5
        have HF5 := hide (HF4.out.trans hf5)
        clear hX hr5 hf5 HF4 HO2
        go_wp2_with fail
        go_ret
        exact ⟨_, rfl, by rw [← (Prod.mk.inj HE.out).1]; exact World.ownsRow_nil _ _ _ _, by rw [← (Prod.mk.inj HE.out).2]; exact HR5.out, HF5.out⟩
      | true =>
        rw [hq] at hB
        go_wp2_with fail
        refine hB.out.mono ?_
        rintro e w3 ⟨rfl, hb3⟩
        have hM := hide (more_any (HR2.out.below hb3) true acc.length most)
        have HF3 := hide (HF2.out.trans (Fr.ofBelow hb3))
        have HO3 := hide (own_below HO2.out hb3)
        clear hB hb3 HR2 HF2 HO2
        rcases Nat.eq_zero_or_pos n with hn | hn
        · subst hn
          have HE : Hid (([], Pp.failS (Pp.failS s'.adv 2) 4) = (V, S)) := hide (by rw [← HR.out, Pp.listedGo, run_yes hb, peek_yes hq, failS_twice]; rfl)
          rw [show moreS s'.adv true acc.length most = Pp.failS s'.adv 2 from by rw [moreS, if_pos ⟨rfl, by omega⟩], show (true && decide (acc.length < most)) = false from by simp; omega] at hM
          clear HR hb hq HO3
          go_wp2_with fail
          refine hM.out.mono ?_
          rintro e w4 ⟨rfl, hr4, hf4⟩
          have hX := hide (fail_any hr4 4 (by decide))
          have HF4 := hide (HF3.out.trans hf4)
          clear hM hr4 hf4 HF3
          go_wp2_with fail
          refine hX.out.mono ?_
          rintro e w5 ⟨rfl, hr5, hf5⟩
          have HR5 := hide hr5
          have HF5 := hide (HF4.out.trans hf5)
          clear hX hr5 hf5 HF4
          go_wp2_with fail
          go_ret
          exact ⟨_, rfl, by rw [← (Prod.mk.inj HE.out).1]; exact World.ownsRow_nil _ _ _ _, by rw [← (Prod.mk.inj HE.out).2]; exact HR5.out, HF5.out⟩
        · obtain ⟨n, rfl⟩ : ∃ n', n = n' + 1 := ⟨n - 1, by omega⟩
          rw [show moreS s'.adv true acc.length most = s'.adv from by rw [moreS, if_neg (by omega)], show (true && decide (acc.length < most)) = true from by simp; omega] at hM
          have HE : Hid ((Pp.listedGo Pp.isFresh Pp.fresh n (acc ++ [(Pp.fresh.run C.ws s'.adv).1])).run C.ws (Pp.fresh.run C.ws s'.adv).2 = (V, S)) := hide (by rw [← HR.out, Pp.listedGo, run_yes hb, peek_yes hq, Pp.run_bind])
          clear HR hb hq
          go_wp2_with fail
          refine hM.out.mono ?_
          rintro e w4 ⟨rfl, hr4, hf4⟩
          have hX := hide (fresh_any hr4)
          have HF4 := hide (HF3.out.trans hf4)
          have HO4 := hide (own_fr HO3.out hf4 (fun x hx => .inl (by simp at hx; subst hx; exact hlt.out)))
          clear hM hr4 hf4 HF3 HO3
          obtain ⟨y, s5, h5⟩ : ∃ r t, Pp.fresh.run C.ws s'.adv = (r, t) := ⟨_, _, rfl⟩
          rw [h5] at hX HE
          simp only at hX HE
          clear h5
          skip
          go_wp2_with fail
          refine hX.out.mono ?_
          rintro e w5 ⟨rfl, hr5, hf5⟩
          have HR5 := hide (hr5.alloc (.cells #[.string ⟨y.toArray⟩] 9))
          have HF5 := hide ((HF4.out.trans hf5).alloc (.cells #[.string ⟨y.toArray⟩] 9))
          have hown5 := (own_fr HO4.out hf5 (fun x hx => .inl (by simp at hx; subst hx; exact hlt.out))).alloc (.cells #[.string ⟨y.toArray⟩] 9)
          have hsz : w.heap.size ≤ w5.heap.size := (HF4.out.trans hf5).size
          clear hX hr5 hf5 HF4 HO4
          go_wp2_with (at_builtin; refine wpList_append_own _ rfl (.tmp 25) (.tmp 28) 37 rfl w.heap.size 9 i0 (.string ⟨#[]⟩) 1 16 Tryz.underlying37 hi hz0 hz1 hz2 rfl (by decide) _ _ _ rfl hown5 ⟨w5.heap.size, 0, none⟩ 1 1 [.string ⟨y.toArray⟩] rfl rfl ?c1 ?c2 ?c3 ?c4 ?c5 ?_)
          case c1 =>
            intro j u hj
            rw [Go.WideShapes.add_plain, Nat.zero_add, cell_blk (heap_alloc_new w5 _)]
            simpa using hj
          case c2 => intro u hu; simp at hu; subst hu; rfl
          case c3 => unfold maxLen; omega
          case c4 => omega
          case c5 => simp; omega
          · intro v' w6 hown6 hgrow6 _
            have hO6 : w6.ownsRow w.heap.size 9 1 v' (acc ++ [y]).length (strCells (acc ++ [y])) := by
              rw [strCells_app, List.length_append]; exact hown6
            have hR6 : Rd w6 b C s5 := HR5.out.grown hgrow6 (fun k hk => by have := hown5.lt k hk; have := hlt.out; exact ⟨by omega, fun c f => by obtain ⟨c', hc'⟩ := own_at hown5 k hk; rw [hc']; simp⟩)
            have hF6 : Fr [b] w w6 := HF5.out.grown hgrow6 (fun k hk => .inr (hown5.lt k hk).1)
            have hV6 := own_len hO6
            have A6 := hide (And.intro hO6 (And.intro hR6 (And.intro hF6 hV6)))
            clear hO6 hR6 hF6 hV6 hown6 hgrow6 hown5 HR5 HF5
            go_wp2_with fail
            go_roundw
            case rel => exact ⟨n, acc ++ [y], s5, A6.out.1, hide A6.out.2.1, hide A6.out.2.2.1, by simp; omega, HE⟩
            case measure => rw [A6.out.2.2.2]; simp [lenV]; omega

set_option maxRecDepth 100000 in
set_option maxHeartbeats 4000000 in
theorem listedT_any {w : World} {b : Nat} {C : Cx} {s : Pp.St} (h : Rd w b C s) (most : Nat) (hm0 : 0 < most) (hm : most ≤ 100) :
    Calls Tryz.prog 74 #[.pointer (some ⟨b, 0, none⟩), .int .i64 (most : Int), .func (.func 75) #[.pointer (some ⟨b, 0, none⟩)] #[], .func (.func 73) #[.pointer (some ⟨b, 0, none⟩)] #[]] w
      fun e w' => ∃ v, e = .returned v ∧ w'.ownsRow w.heap.size 43 2 v ((Pp.listed Pp.isType Pp.typed most).run C.ws s).1.length (tysCells ((Pp.listed Pp.isType Pp.typed most).run C.ws s).1) ∧ Rd w' b C ((Pp.listed Pp.isType Pp.typed most).run C.ws s).2 ∧ Fr [b] w w' := by
  obtain ⟨V, S, hVS⟩ : ∃ V S, (Pp.listed Pp.isType Pp.typed most).run C.ws s = (V, S) := ⟨_, _, rfl⟩
  rw [hVS]
  have HR := hide hVS
  clear hVS
  show Calls _ _ _ _ fun e w' => ∃ v, e = .returned v ∧ w'.ownsRow w.heap.size 43 2 v V.length (tysCells V) ∧ Rd w' b C S ∧ Fr [b] w w'
  simp only [Pp.listed, Pp.run_bind] at HR
  have hC1 := hide (typed_any h)
  have hlt := hide h.lt
  obtain ⟨x, s1, h1⟩ : ∃ r t, Pp.typed.run C.ws s = (r, t) := ⟨_, _, rfl⟩
  rw [h1] at hC1 HR
  simp only at hC1 HR
  clear h1 h
  unfold tyV at hC1
  obtain ⟨i0, hi, hz0, hz1, hz2⟩ := info_parts Tryz.info43
  go_enter Tryz.func74, Tryz.ntmps74
  go_wp2_with fail
  refine hC1.out.mono ?_
  rintro e w1 ⟨rfl, hr1, hf1⟩
  have hA1 := hide (hr1.alloc (.cells #[.int .i64 x.kind, .string ⟨x.name.toArray⟩] 43))
  have hF1 := hide (hf1.alloc (.cells #[.int .i64 x.kind, .string ⟨x.name.toArray⟩] 43))
  have hO1 : Hid ((w1.alloc (.cells #[.int .i64 x.kind, .string ⟨x.name.toArray⟩] 43)).ownsRow w.heap.size 43 2 (.slice (some ⟨w1.heap.size, 0, none⟩) 1 1) 1 (tysCells [x])) := hide (own_new w1 w.heap.size 43 2 #[.int .i64 x.kind, .string ⟨x.name.toArray⟩] hf1.size rfl rfl)
  clear hr1 hf1 hC1
  go_wp2_with fail
  go_loopw [9] (fun v wr => ∃ (n : Nat) (acc : List Pp.Ty) (s' : Pp.St), wr.ownsRow w.heap.size 43 2 v acc.length (tysCells acc) ∧ Hid (Rd wr b C s') ∧ Hid (Fr [b] w wr) ∧ acc.length + n = most ∧ Hid ((Pp.listedGo Pp.isType Pp.typed n acc).run C.ws s' = (V, S)))
    (fun v _ => most - lenV v)
  case atStart => exact ⟨most - 1, [x], s1, hO1.out, hA1, hF1, by simp; omega, HR⟩
  case round =>
    obtain ⟨n, acc, s', hown, hrd, hfr, hlen, HR⟩ := hrel
    clear hA1 hF1 hO1
    obtain ⟨a0, c0, rfl⟩ := own_shapeV hown
    have hS := hide (skip_any hrd.out Pp.wComma (by decide))
    rw [skip_run] at hS
    cases hb : Pp.has C.ws s' (Pp.isW Pp.wComma) with
    | false =>
      rw [hb] at hS
      simp only [Bool.false_eq_true, if_false] at hS
      unfold Pp.wComma at hS
      have HE : Hid ((acc, s') = (V, S)) := hide (by rw [← HR.out]; cases n with
        | zero => rw [Pp.listedGo, run_no hb]; rfl
        | succ n => rw [Pp.listedGo, run_no hb]; rfl)
      have HO := hide hown
      clear HR hb hown
      go_wp2_with fail
      refine hS.out.mono ?_
      rintro e w2 ⟨rfl, hr2, hf2⟩
      have HO2 := hide (own_fr HO.out hf2 (fun x hx => .inr fun c f hc => by simp at hx; subst hx; rw [hrd.out.blk] at hc; simp at hc))
      have HR2 := hide hr2
      have HF2 := hide (hfr.out.trans hf2)
      clear hr2 hf2 HO hrd hfr hS
      go_wp2_with fail
      go_ret
      exact ⟨_, rfl, by rw [← (Prod.mk.inj HE.out).1]; exact HO2.out, by rw [← (Prod.mk.inj HE.out).2]; exact HR2.out, HF2.out⟩
    | true =>
      rw [hb] at hS
      simp only [if_true] at hS
      unfold Pp.wComma at hS
      have HO := hide hown
      have HRD := hide hrd.out.blk
      clear hown
      go_wp2_with fail
      refine hS.out.mono ?_
      rintro e w2 ⟨rfl, hr2, hf2⟩
      have HO2 := hide (own_fr HO.out hf2 (fun x hx => .inr fun c f hc => by simp at hx; subst hx; rw [HRD.out] at hc; simp at hc))
      have HF2 := hide (hfr.out.trans hf2)
      have hB := hide (seesType_any hr2)
      have HR2 := hide hr2
      clear hr2 hf2 HO hrd hfr hS HRD
      cases hq : Pp.has C.ws s'.adv Pp.isType with
      | false =>
        rw [hq] at hB
        have HE : Hid (([], Pp.failS s'.adv 4) = (V, S)) := hide (by rw [← HR.out]; cases n with
          | zero => rw [Pp.listedGo, run_yes hb, peek_no hq]; rfl
          | succ n => rw [Pp.listedGo, run_yes hb, peek_no hq]; rfl)
        clear HR hb hq
        go_wp2_with fail
        refine hB.out.mono ?_
        rintro e w3 ⟨rfl, hb3⟩
        have hM := hide (more_any (HR2.out.below hb3) false acc.length most)
        have HF3 := hide (HF2.out.trans (Fr.ofBelow hb3))
        rw [show moreS s'.adv false acc.length most = s'.adv from by simp [moreS]] at hM
        clear hB hb3 HR2 HF2
        go_wp2_with fail
        refine hM.out.mono ?_
        rintro e w4 ⟨rfl, hr4, hf4⟩
        have hX := hide (fail_any hr4 4 (by decide))
        have HF4 := hide (HF3.out.trans hf4)
        clear hM hr4 hf4 HF3
        go_wp2_with fail
        refine hX.out.mono ?_
        rintro e w5 ⟨rfl, hr5, hf5⟩
        have HR5 := hide hr5
        have HF5 := hide (HF4.out.trans hf5)
        clear hX hr5 hf5 HF4 HO2
        go_wp2_with fail
        go_ret
        exact ⟨_, rfl, by rw [← (Prod.mk.inj HE.out).1]; exact World.ownsRow_nil _ _ _ _, by rw [← (Prod.mk.inj HE.out).2]; exact HR5.out, HF5.out⟩
      | true =>
        rw [hq] at hB
        go_wp2_with fail
        refine hB.out.mono ?_
        rintro e w3 ⟨rfl, hb3⟩
        have hM := hide (more_any (HR2.out.below hb3) true acc.length most)
        have HF3 := hide (HF2.out.trans (Fr.ofBelow hb3))
        have HO3 := hide (own_below HO2.out hb3)
        clear hB hb3 HR2 HF2 HO2
        rcases Nat.eq_zero_or_pos n with hn | hn
        · subst hn
          have HE : Hid (([], Pp.failS (Pp.failS s'.adv 2) 4) = (V, S)) := hide (by rw [← HR.out, Pp.listedGo, run_yes hb, peek_yes hq, failS_twice]; rfl)
          rw [show moreS s'.adv true acc.length most = Pp.failS s'.adv 2 from by rw [moreS, if_pos ⟨rfl, by omega⟩], show (true && decide (acc.length < most)) = false from by simp; omega] at hM
          clear HR hb hq HO3
          go_wp2_with fail
          refine hM.out.mono ?_
          rintro e w4 ⟨rfl, hr4, hf4⟩
          have hX := hide (fail_any hr4 4 (by decide))
          have HF4 := hide (HF3.out.trans hf4)
          clear hM hr4 hf4 HF3
          go_wp2_with fail
          refine hX.out.mono ?_
          rintro e w5 ⟨rfl, hr5, hf5⟩
          have HR5 := hide hr5
          have HF5 := hide (HF4.out.trans hf5)
          clear hX hr5 hf5 HF4
          go_wp2_with fail
          go_ret
          exact ⟨_, rfl, by rw [← (Prod.mk.inj HE.out).1]; exact World.ownsRow_nil _ _ _ _, by rw [← (Prod.mk.inj HE.out).2]; exact HR5.out, HF5.out⟩
        · obtain ⟨n, rfl⟩ : ∃ n', n = n' + 1 := ⟨n - 1, by omega⟩
          rw [show moreS s'.adv true acc.length most = s'.adv from by rw [moreS, if_neg (by omega)], show (true && decide (acc.length < most)) = true from by simp; omega] at hM
          have HE : Hid ((Pp.listedGo Pp.isType Pp.typed n (acc ++ [(Pp.typed.run C.ws s'.adv).1])).run C.ws (Pp.typed.run C.ws s'.adv).2 = (V, S)) := hide (by rw [← HR.out, Pp.listedGo, run_yes hb, peek_yes hq, Pp.run_bind])
          clear HR hb hq
          go_wp2_with fail
          refine hM.out.mono ?_
          rintro e w4 ⟨rfl, hr4, hf4⟩
          have hX := hide (typed_any hr4)
          have HF4 := hide (HF3.out.trans hf4)
          have HO4 := hide (own_fr HO3.out hf4 (fun x hx => .inl (by simp at hx; subst hx; exact hlt.out)))
          clear hM hr4 hf4 HF3 HO3
          obtain ⟨y, s5, h5⟩ : ∃ r t, Pp.typed.run C.ws s'.adv = (r, t) := ⟨_, _, rfl⟩
          rw [h5] at hX HE
          simp only at hX HE
          clear h5
          unfold tyV at hX
          go_wp2_with fail
          refine hX.out.mono ?_
          rintro e w5 ⟨rfl, hr5, hf5⟩
          have HR5 := hide (hr5.alloc (.cells #[.int .i64 y.kind, .string ⟨y.name.toArray⟩] 43))
          have HF5 := hide ((HF4.out.trans hf5).alloc (.cells #[.int .i64 y.kind, .string ⟨y.name.toArray⟩] 43))
          have hown5 := (own_fr HO4.out hf5 (fun x hx => .inl (by simp at hx; subst hx; exact hlt.out))).alloc (.cells #[.int .i64 y.kind, .string ⟨y.name.toArray⟩] 43)
          have hsz : w.heap.size ≤ w5.heap.size := (HF4.out.trans hf5).size
          clear hX hr5 hf5 HF4 HO4
          go_wp2_with (at_builtin; refine wpList_append_own _ rfl (.tmp 25) (.tmp 28) 46 rfl w.heap.size 43 i0 (.agg #[.int .i64 0, .string ⟨#[]⟩]) 2 24 Tryz.underlying46 hi hz0 hz1 hz2 rfl (by decide) _ _ _ rfl hown5 ⟨w5.heap.size, 0, none⟩ 1 1 [.int .i64 y.kind, .string ⟨y.name.toArray⟩] rfl rfl ?c1 ?c2 ?c3 ?c4 ?c5 ?_)
          case c1 =>
            intro j u hj
            rw [Go.WideShapes.add_plain, Nat.zero_add, cell_blk (heap_alloc_new w5 _)]
            simpa using hj
          case c2 => intro u hu; simp at hu; rcases hu with rfl | rfl <;> rfl
          case c3 => unfold maxLen; omega
          case c4 => omega
          case c5 => simp; omega
          · intro v' w6 hown6 hgrow6 _
            have hO6 : w6.ownsRow w.heap.size 43 2 v' (acc ++ [y]).length (tysCells (acc ++ [y])) := by
              rw [tysCells_app, List.length_append]; exact hown6
            have hR6 : Rd w6 b C s5 := HR5.out.grown hgrow6 (fun k hk => by have := hown5.lt k hk; have := hlt.out; exact ⟨by omega, fun c f => by obtain ⟨c', hc'⟩ := own_at hown5 k hk; rw [hc']; simp⟩)
            have hF6 : Fr [b] w w6 := HF5.out.grown hgrow6 (fun k hk => .inr (hown5.lt k hk).1)
            have hV6 := own_len hO6
            have A6 := hide (And.intro hO6 (And.intro hR6 (And.intro hF6 hV6)))
            clear hO6 hR6 hF6 hV6 hown6 hgrow6 hown5 HR5 HF5
            go_wp2_with fail
            go_roundw
            case rel => exact ⟨n, acc ++ [y], s5, A6.out.1, hide A6.out.2.1, hide A6.out.2.2.1, by simp; omega, HE⟩
            case measure => rw [A6.out.2.2.2]; simp [lenV]; omega
end Go.Proofs.YtdgfidaopkcjoaaGreatDoor

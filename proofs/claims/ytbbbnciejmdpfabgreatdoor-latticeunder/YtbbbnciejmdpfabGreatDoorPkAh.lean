/- What the laws of this seat lean on: 2 texts. -/
import Derived.Test.YtbbbnciejmdpfabGreatDoorPkAg
import Derived.Test.YtbbbnciejmdpfabGreatDoorRows
import Derived.WalkKit
import Derived.WalkSpells
import Derived.WalkLawsBesides
import Derived.Tactics
import Derived.Tactics2
import Derived.Defers
import Derived.Laws.Pointers
import Derived.Laws.LoneSync
import Derived.RegionTactic
import Derived.RegionCalls
import Derived.ChangeAlike
import Derived.BigQuiet
set_option maxRecDepth 100000
set_option maxHeartbeats 64000000
set_option linter.unusedVariables false
set_option linter.unusedSimpArgs false
namespace Go.Proofs.YtbbbnciejmdpfabGreatDoor
open Go.RowKit
namespace Ow
theorem OwnX.putb {α : Type} {P : α -> List Value -> Prop} {w : World} {base e sz b k : Nat} {v u : Value} {l : List α} {cs : Array Value} {t : TypeId} (h : OwnX w base e sz P v l) (hb : w.heap[b]? = some (.cells cs t (0, 0))) (ht : t ≠ e) : OwnX (w.setCell ⟨b, k, none⟩ u) base e sz P v l :=
 h.keep (fun _ _ h => h) fun i c hi => (Below.heap_setCell w ⟨b, k, none⟩ u i (fun x => by
  have x : i = b := x; rw [x, hb] at hi; injection hi with hi; injection hi with _ h2 _
  exact ht h2)).trans hi
theorem OwnX.fx {α : Type} {P : α -> List Value -> Prop} {S : Nat -> Prop} {w w' : World} {base e sz : Nat} {v : Value} {l : List α} (h : OwnX w base e sz P v l) (hf : Fx S w w') (hs : ∀ (k : Nat) (c : Array Value), w.heap[k]? = some (.cells c e (0, 0)) -> ¬ S k) : OwnX w' base e sz P v l :=
 h.keep (fun _ _ h => h) fun i c hi => (hf.blk i (lt_of_blk hi) (hs i c hi)).trans hi
theorem step_app2 {α : Type} {P : α -> List Value -> Prop} {sz base e : Nat} {w : World} {v : Value} {l : List α} {Pr : Program} {ops : Array Oper} {o : Oper} {a : Act} {K : Act -> World -> Prop} {Q : Exit -> Act -> World -> Prop} {E : Prop} (hgd : o.guard = none) (s x : Operand) (t : TypeId)
 (hop : o.op = .call { callee := .builtin .append, args := #[s, x], argTypes := #[t, t] }) {i : TypeInfo} {bytes : Nat}
 (ht : Pr.underlying t = some (.slice e)) (hi : Pr.info? e = some i) (hz : i.zero.map (fun z => z.cells.size) = some sz) (hsize : i.size = sz) (hby : i.bytes = bytes) (hsz : 0 < sz) (hs : Shp P sz)
 (hv : a.eval s = v) (ho : OwnX w base e sz P v l) {v2 : Value} {l2 : List α} (hv2 : a.eval x = v2) (hr : RowX w sz P v2 l2) (h63 : l.length + l2.length <= 1000000) (hb2 : bytes <= 1000) (hbase : base <= w.heap.size)
 (h : ∀ v' w', OwnX w' base e sz P v' (l ++ l2) -> w.grownBy w' v.ownBlock -> (v'.ownBlock = v.ownBlock \/ v'.ownBlock = some w.heap.size) -> K (a.put o.dst v') w') :
 if Region.wanted o (yielded ops a.tmps) = true then Oper.wp Pr o a w K Q else E := by
 have hw : Region.wanted o (yielded ops a.tmps) = true := by simp [Region.wanted, hgd]
 rw [if_pos hw]; obtain ⟨v', w', hrun, h1, h2, h3⟩ := run_app2s (Pr := Pr) (t := t) (ty := o.type) (n := 0) ht hi hz hsize hby hsz hs ho hr h63 hb2 hbase; unfold Oper.wp execOp; simp only [hop, resolve, invoke, builtin, Sem.run_bind, Sem.run_pure, Result.andThen_ok, List.map_toArray, List.map_cons, List.map_nil, hv, hv2, hrun]; exact h v' w' h1 h2 h3
theorem i_own' : (Tryz.prog.info? 150).map (fun i => (i.zero.map (fun z => z.cells.size), i.size, i.bytes)) = some (some 10, 10, 144) := by kernel_rfl
end Ow
def Moved (w : World) (v v' : Value) : Prop := v'.ownBlock = v.ownBlock \/ ∃ q, w.heap.size <= q /\ v'.ownBlock = some q
def listC (cs : Array Value) (vs vm va : Value) : Array Value := ((cs.setIfInBounds 11 vs).setIfInBounds 12 vm).setIfInBounds 13 va
theorem inherit_any {α : Type} (PM : α -> List Value -> Prop) (hPM : Ow.Shp PM 10) (S : Nat -> Prop) (b s base : Nat) (cs ds : Array Value) (vs vm va us um ua : Value) (ls ks : List Pp.Slt) (lm km : List α) (la ka : List Nat) (w : World)
 (hb : w.heap[b]? = some (.cells cs 140 (0, 0))) (h14 : cs.size = 14) (b11 : cs[11]? = some vs) (b12 : cs[12]? = some vm) (b13 : cs[13]? = some va)
 (hs : w.heap[s]? = some (.cells ds 140 (0, 0))) (d11 : ds[11]? = some us) (d12 : ds[12]? = some um) (d13 : ds[13]? = some ua) (hns : ¬ S s)
 (hvs : RowX w 4 SltX vs ls) (hvm : Ow.OwnX w base 150 10 PM vm lm) (hva : Ow.OwnX w base 125 1 PtrX va la)
 (hus : RowX w 4 SltX us ks) (hum : Stb S w 10 PM um km) (hua : Stb S w 1 PtrX ua ka) (hbase : base <= w.heap.size)
 (hSb : S b) (hSm : ∀ k, vm.ownBlock = some k -> S k) (hSa : ∀ k, va.ownBlock = some k -> S k)
 (n1 : ks.length + ls.length <= 1000000) (n2 : lm.length + km.length <= 1000000) (n3 : la.length + ka.length <= 1000)
 (hl : Live w (la ++ ka)) (hx : ∀ x ∈ la ++ ka, S x -> x = b) :
 Calls Tryz.prog 137 #[.pointer (some ⟨b, 0, none⟩), .pointer (some ⟨s, 0, none⟩)] w fun e w' => e = .returned (.tuple #[]) /\ ∃ vs' vm' va', w'.heap[b]? = some (.cells (listC cs vs' vm' va') 140 (0, 0)) /\
  Ow.OwnX w' w.heap.size 80 4 SltX vs' (ks ++ ls) /\ Ow.OwnX w' base 150 10 PM vm' (lm ++ km) /\ Ow.OwnX w' base 125 1 PtrX va' (lookL la ka) /\ Fx S w w' /\ Moved w vm vm' /\ Moved w va va' := by
 have HB := hide hb; have HS := hide hs; have c11 : w.cell? ⟨b, 11, none⟩ = some vs := (cell_box hb 11).trans b11; have e11 : w.cell? ⟨s, 11, none⟩ = some us := (cell_box hs 11).trans d11; have hkb := Ow.lt_of_blk hb; have hks := Ow.lt_of_blk hs; have hA : Below w.heap.size w (w.alloc (.cells #[us, vs] 77)).drew := ((Below.refl _ _).alloc (Nat.le_refl _) _).drew; have hA0 : (w.alloc (.cells #[us, vs] 77)).drew.heap[w.heap.size]? = some (.cells #[us, vs] 77 (0, 0)) := heap_alloc_new w _; have hcon := concat_any w.heap.size 0 2 us vs ks ls (w.alloc (.cells #[us, vs] 77)).drew (hus.on hA fun _ _ h => h) (hvs.on hA fun _ _ h => h) (cell_box hA0 0) (cell_box hA0 1) (Ow.lt_of_blk hA0) n1
 have HCon : Hid (Calls Tryz.prog 147 #[.slice (some ⟨w.heap.size, 0, none⟩) 2 2] (w.alloc (.cells #[us, vs] 77)).drew fun e w' => ∃ v, e = .returned v /\ Ow.OwnX w' w.heap.size 80 4 SltX v (ks ++ ls) /\ Below w.heap.size w w') := hide (hcon.mono fun e w' h => by
  obtain ⟨v, h1, h2, h3⟩ := h
  exact ⟨v, h1, h2.low hA.size fun _ _ h => h, hA.trans (h3.mono hA.size)⟩)
 have HVM := hide hvm; have HVA := hide hva; have HUM := hide hum; have HUA := hide hua; have HSb := hide hSb; have HSm := hide hSm; have HSa := hide hSa; have HL := hide hl; have HX := hide hx; have HB14 := hide (And.intro h14 (And.intro b12 b13)); have HD := hide (And.intro d12 d13); have HNs := hide hns; have hne : s ≠ b := fun e => hns (e ▸ hSb); have HB11 := hide b11; have HN2 := hide n2; have HN3 := hide n3; obtain ⟨sa, sc, rfl, _⟩ := hvs.len; obtain ⟨ta, tc, rfl, _⟩ := hus.len; clear hb hs h14 b11 b12 b13 d11 d12 d13 hns hvs hvm hva hus hum hua hSb hSm hSa hl hx hA hA0 hcon n1 n2 n3; obtain ⟨nk, hnk⟩ : ∃ q, q = ks.length := ⟨_, rfl⟩; obtain ⟨nl, hnl⟩ : ∃ q, q = ls.length := ⟨_, rfl⟩; rw [<- hnk] at HCon e11; rw [<- hnl] at HCon c11 HB11; clear hnk hnl; obtain ⟨j0, hj, hj0, hj1, hj2⟩ := Ow.info_of' Ow.i_own'; go_enter Tryz.func137, Tryz.ntmps137; go_wp2_with fail
 go_region_law (first
  | (go_simp
     refine HCon.out.mono ?_; rintro e w9 ⟨v9, rfl, ho9, hb9⟩; have HO9 := hide ho9; have HB9 := hide hb9; clear ho9 hb9 HCon; have c9 : w9.cell? ⟨b, 11, none⟩ = some (.slice sa nl sc) := (HB9.out.cell hkb).trans c11; have z9 : w9.frozen? ⟨b, 11, none⟩ = false := Ow.fzl_blk ((HB9.out.block b hkb).trans HB.out) 11; obtain ⟨ya, yc, hv9⟩ := HO9.out.shape; obtain ⟨n9, hn9⟩ : ∃ q, q = (ks ++ ls).length := ⟨_, rfl⟩; rw [<- hn9] at hv9; clear hn9
     subst hv9))
 all_goals
  have HFa : Hid (Fx S w (w9.setCell ⟨b, 11, none⟩ (.slice ya n9 yc))) := hide ((Fx.below HB9.out).trans (Fx.set HSb.out _)); have hb9 := (HB9.out.block b hkb).trans HB.out; have hs9 := (HB9.out.block s hks).trans HS.out; have HBa : Hid ((w9.setCell ⟨b, 11, none⟩ (.slice ya n9 yc)).heap[b]? = some (.cells (cs.setIfInBounds 11 (.slice ya n9 yc)) 140 (0, 0))) := hide (put_blk hb9 _); have HSc : Hid ((w9.setCell ⟨b, 11, none⟩ (.slice ya n9 yc)).heap[s]? = some (.cells ds 140 (0, 0))) := hide ((Below.heap_setCell w9 ⟨b, 11, none⟩ _ s hne).trans hs9); have HOa := hide (HO9.out.putb (k := 11) (u := .slice ya n9 yc) hb9 (by decide))
  have HVMa := hide ((HVM.out.on HB9.out fun _ _ h => h).putb (k := 11) (u := .slice ya n9 yc) hb9 (by decide))
  have HVAa := hide ((HVA.out.on HB9.out fun _ _ h => h).putb (k := 11) (u := .slice ya n9 yc) hb9 (by decide))
  clear hb9 hs9 HVM HVA HO9 HB9 HB HS c9 z9 c11 e11
 all_goals
  generalize w9.setCell ⟨b, 11, none⟩ (.slice ya n9 yc) = w10 at *
  obtain ⟨c10, hc10⟩ : ∃ q, q = cs.setIfInBounds 11 (.slice ya n9 yc) := ⟨_, rfl⟩; have HC10 := hide hc10; rw [<- hc10] at HBa; have h12 : c10[12]? = some vm := by rw [hc10]; simp [HB14.out.2.1]
  have h13 : c10[13]? = some va := by rw [hc10]; simp [HB14.out.2.2]
  have H13 : Hid (c10[13]? = some va /\ c10.size = 14) := hide ⟨h13, by rw [hc10]; simp [HB14.out.1]⟩
  have r12 := (cell_box HBa.out 12).trans h12; have s12 := (cell_box HSc.out 12).trans HD.out.1; have HRm : Hid (RowX w10.drew 10 PM um km) := hide ((HUM.out.on HFa.out fun _ _ h => h).row.on (Below.drew (Below.refl _ _)) fun _ _ h => h); have HVMd : Hid (Ow.OwnX w10.drew base 150 10 PM vm lm) := hide (HVMa.out.on (Below.drew (Below.refl _ _)) fun _ _ h => h); have hbz : base <= w10.drew.heap.size := Nat.le_trans hbase HFa.out.size; obtain ⟨ma, mc, hvm'⟩ := HVMd.out.shape; obtain ⟨pa, pc, hum', _⟩ := HRm.out.len; obtain ⟨nm, hnm⟩ : ∃ q, q = lm.length := ⟨_, rfl⟩; obtain ⟨np, hnp⟩ : ∃ q, q = km.length := ⟨_, rfl⟩; rw [<- hnm] at hvm'; rw [<- hnp] at hum'; have HNb := hide (And.intro hnm hnp); subst hvm' hum'; have hn2 := HN2.out; clear hnm hnp hc10 h12 h13; go_wp2_with fail
  go_region_law (first
   | (refine Ow.step_app2 rfl (.tmp 21) (.tmp 25) 138 rfl Tryz.underlying138 hj hj0 hj1 hj2 (by decide) hPM (by first | rfl | simp [Act.eval, Act.put]) HVMd.out (by first | rfl | simp [Act.eval, Act.put]) HRm.out hn2 (by decide) hbz ?_
      intro v11 w11 ho11 hg11 hq11; have HO11 := hide ho11; have HG11 := hide hg11; have HQ11 := hide hq11
      have HB11x : Hid (w11.heap[b]? = some (.cells c10 140 (0, 0))) := hide ((hg11.block b (Ow.lt_of_blk HBa.out) (fun h => by
       obtain ⟨nw, _, hown⟩ := HVMd.out; obtain ⟨cc, hcc⟩ := Ow.own_at hown _ h.symm; have hcc : w10.heap[b]? = some (.cells cc 150 (0, 0)) := hcc; rw [HBa.out] at hcc
       cases hcc)).trans HBa.out)
      clear ho11 hg11 hq11
      have c11 : w11.cell? ⟨b, 12, none⟩ = some (.slice ma nm mc) := by
       rw [<- r12, cell_box HB11x.out 12, cell_box HBa.out 12]
      have z11 : w11.frozen? ⟨b, 12, none⟩ = false := Ow.fzl_blk HB11x.out 12; obtain ⟨xa, xc, hv11⟩ := HO11.out.shape; obtain ⟨n11, hn11⟩ : ∃ q, q = (lm ++ km).length := ⟨_, rfl⟩; rw [<- hn11] at hv11; clear hn11
      subst hv11))
 all_goals
  have hkm := Ow.kx_grown HVMd.out HG11.out; have hne2 : ¬ (some s = (Value.slice ma nm mc).ownBlock) := fun h => HNs.out (HSm.out s h.symm); have HFb : Hid (Fx S w (w11.setCell ⟨b, 12, none⟩ (.slice xa n11 xc))) := hide (((HFa.out.trans (Fx.below (Below.drew (Below.refl _ _)))).trans ((Fx.grown HG11.out).mono fun k _ h => HSm.out k h)).trans (Fx.set HSb.out _)); have HBb : Hid ((w11.setCell ⟨b, 12, none⟩ (.slice xa n11 xc)).heap[b]? = some (.cells (c10.setIfInBounds 12 (.slice xa n11 xc)) 140 (0, 0))) := hide (put_blk HB11x.out _); have HSd : Hid ((w11.setCell ⟨b, 12, none⟩ (.slice xa n11 xc)).heap[s]? = some (.cells ds 140 (0, 0))) := hide ((Below.heap_setCell w11 ⟨b, 12, none⟩ _ s hne).trans ((HG11.out.block s (Ow.lt_of_blk HSc.out) hne2).trans HSc.out)); have HOb := hide (((HOa.out.on (Below.drew (Below.refl _ _)) fun _ _ h => h).kx hkm (by decide) fun _ _ h => h).putb (k := 12) (u := .slice xa n11 xc) HB11x.out (by decide))
  have HVAb := hide (((HVAa.out.on (Below.drew (Below.refl _ _)) fun _ _ h => h).kx hkm (by decide) fun _ _ h => h).putb (k := 12) (u := .slice xa n11 xc) HB11x.out (by decide))
  have HVMb := hide (HO11.out.putb (k := 12) (u := .slice xa n11 xc) HB11x.out (by decide))
  have HMv : Hid (Moved w (.slice ma nm mc) (.slice xa n11 xc)) := hide (by
   rcases HQ11.out with h | h
   · exact .inl h
   · exact .inr ⟨_, HFa.out.size, h⟩)
  clear hkm hne2 HO11 HG11 HQ11 HB11x c11 z11 HVMd HOa HVAa HVMa HBa HSc HRm hbz r12 s12
 all_goals
  generalize w11.setCell ⟨b, 12, none⟩ (.slice xa n11 xc) = w12 at *
  have s13 := (cell_box HSd.out 13).trans HD.out.2; have hbz : base <= w12.heap.size := Nat.le_trans hbase HFb.out.size
  have HLk := hide (lookAlso_any (fun k => k = b \/ va.ownBlock = some k) ka la b base (c10.setIfInBounds 12 (.slice xa n11 xc)) va ua w12 HBb.out (by simp [H13.out.2]) (by simp [H13.out.1]) HVAb.out hbz (.inl rfl) (fun k h => .inr h)
   ((HUA.out.on HFb.out fun _ _ h => h).sub fun k _ h => by
     rcases h with rfl | h
     · exact HSb.out
     · exact HSa.out k h) HN3.out (HL.out.more HFb.out fun x hx hs => by rw [HX.out x hx hs]; exact ⟨_, HBb.out⟩) (fun x hx h => by
     rcases h with h | h
     · exact h
     · exact HX.out x hx (HSa.out x h)))
  obtain ⟨qa, qc, hua', _⟩ := HUA.out.row.len; obtain ⟨nq, hnq⟩ : ∃ q, q = ka.length := ⟨_, rfl⟩; rw [<- hnq] at hua'; clear hnq; subst hua'; go_wp2_with fail; refine HLk.out.mono ?_; rintro e w13 ⟨rfl, va', hb13, ho13, hf13, hm13⟩
  have hsl : Ow.OwnX w13 w.heap.size 80 4 SltX (.slice ya n9 yc) (ks ++ ls) := HOb.out.fx hf13 fun k c hk h => by
   rcases h with rfl | h
   · rw [HBb.out] at hk; injection hk with hk; injection hk with _ hk; exact absurd hk (by decide)
   · obtain ⟨nw, _, hown⟩ := HVAb.out
     obtain ⟨cc, hcc⟩ := Ow.own_at hown _ h; rw [hk] at hcc; injection hcc with hcc; injection hcc with _ hcc; exact absurd hcc (by decide)
  have hml : Ow.OwnX w13 base 150 10 PM (.slice xa n11 xc) (lm ++ km) := HVMb.out.fx hf13 fun k c hk h => by
   rcases h with rfl | h
   · rw [HBb.out] at hk; injection hk with hk; injection hk with _ hk; exact absurd hk (by decide)
   · obtain ⟨nw, _, hown⟩ := HVAb.out
     obtain ⟨cc, hcc⟩ := Ow.own_at hown _ h; rw [hk] at hcc; injection hcc with hcc; injection hcc with _ hcc; exact absurd hcc (by decide)
  have hff : Fx S w w13 := HFb.out.trans (hf13.mono fun k _ h => by
   rcases h with rfl | h
   · exact HSb.out
   · exact HSa.out k h)
  have hmv : Moved w va va' := by
   rcases hm13 with h | ⟨q, h, h2⟩
   · exact .inl h
   · exact .inr ⟨q, Nat.le_trans HFb.out.size h, h2⟩
  have hbf : w13.heap[b]? = some (.cells (listC cs (.slice ya n9 yc) (.slice xa n11 xc) va') 140 (0, 0)) := by
   rw [hb13, HC10.out]; rfl
  have HEnd := hide (And.intro hbf (And.intro hsl (And.intro hml (And.intro ho13 (And.intro hff (And.intro HMv.out hmv)))))); clear hbf hsl hml ho13 hff hmv hb13 hf13 hm13 HLk; go_wp2_with fail; exact bodyPost_end (v := .tuple #[]) (by simp [results, Tryz.results137, go_sem]) rfl ⟨rfl, _, _, _, HEnd.out⟩
namespace On
theorem hide_ {p : Prop} (h : p) : Hid p := h
theorem disable (w : World) : (callFunc 153 #[]).run Tryz.prog w = .ok (.value (.tuple #[])) w := run_call_mark0 Tryz.func153 (by kernel_rfl) (by kernel_rfl) (by kernel_rfl) .disable (by kernel_rfl) w
theorem enable (w : World) : (callFunc 155 #[]).run Tryz.prog w = .ok (.value (.tuple #[])) w := run_call_mark0 Tryz.func155 (by kernel_rfl) (by kernel_rfl) (by kernel_rfl) .enable (by kernel_rfl) w
theorem acquire (a : Addr) (w : World) : (callFunc 156 #[.pointer (some a)]).run Tryz.prog w = .ok (.value (.tuple #[])) w := run_call_marked Tryz.func156 (by kernel_rfl) (by kernel_rfl) (by kernel_rfl) .acquire (by kernel_rfl) a w
theorem releaseMerge (a : Addr) (w : World) : (callFunc 158 #[.pointer (some a)]).run Tryz.prog w = .ok (.value (.tuple #[])) w := run_call_marked Tryz.func158 (by kernel_rfl) (by kernel_rfl) (by kernel_rfl) .releaseMerge (by kernel_rfl) a w
theorem store_deferred (a : Addr) (x : Value) (u : FrameMode) (w : World) (hc : w.cell? a = some x) (hz : w.frozen? a = false) :
 CallsD Tryz.prog 146 #[.pointer (some a), .bool true] u w fun e u' w' => u' = u /\ (e = .returned (.tuple #[]) /\ w' = w.drew.setCell a (.int .u32 1)) := by
 have hc' : w.drew.cell? a = some x := by go_simp
 have hz' : w.drew.frozen? a = false := by go_simp
 have hst := run_call_store (P := Tryz.prog) Tryz.func150 (by kernel_rfl) (by kernel_rfl) (by kernel_rfl) (by kernel_rfl) (k := .u32) (y := 1) hc' hz'
 go_enter_d Tryz.func146, Tryz.ntmps146
 go_wp2
 go_region_calls
 all_goals (go_end0; exact ⟨rfl, rfl⟩)
theorem unlock_deferred (a : Addr) (u : FrameMode) (w : World) (hc : w.cell? a = some (.int .i32 1)) (hz : w.frozen? a = false) :
 CallsD Tryz.prog 145 #[.pointer (some a)] u w fun e u' w' => u' = u /\ (e = .returned (.tuple #[]) /\ w' = w.setCell a (.int .i32 0)) := by
 have hd := disable; have he := enable; have hr := releaseMerge; have hadd := run_call_add (P := Tryz.prog) Tryz.func159 (by kernel_rfl) (by kernel_rfl) (by kernel_rfl) .i32 (by kernel_rfl) (y := -1) (s := 0) hc hz (by simp [go_sem]; rfl)
 have hcv := run_convert_to_unsafe (P := Tryz.prog) (src := 198) (dst := 202) Tryz.underlying198 Tryz.underlying202 (by kernel_rfl) hc
 go_enter_d Tryz.func145, Tryz.ntmps145
 go_wp2
 go_end0
 go_wp2
 go_end0
 exact ⟨rfl, rfl⟩
theorem lock_free (a : Addr) (w : World) (hc : w.cell? a = some (.int .i32 0)) (hz : w.frozen? a = false) :
 Calls Tryz.prog 144 #[.pointer (some a)] w fun e w' => e = .returned (.tuple #[]) /\ w' = w.setCell a (.int .i32 1) := by
 have hd := disable; have he := enable; have ha := acquire; have hcas := run_call_cas_hit (P := Tryz.prog) Tryz.func154 (by kernel_rfl) (by kernel_rfl) (by kernel_rfl) .i32 (by kernel_rfl) (y := 1) hc hz
 have hc' : (w.setCell a (.int .i32 1)).cell? a = some (.int .i32 1) := World.cell?_setCell_same w a _ hc; have hcv := run_convert_to_unsafe (P := Tryz.prog) (src := 198) (dst := 202) Tryz.underlying198 Tryz.underlying202 (by kernel_rfl) hc'
 go_enter Tryz.func144, Tryz.ntmps144; go_wp2
 first | go_end0 | (simp only [Exit.inBlock, Exit.then]; refine bodyPost_ret (results_none rfl _ _ _) rfl ?_) | refine bodyPost_ret (results_none rfl _ _ _) rfl ?_
 go_wp2
 go_end0
 exact ⟨rfl, rfl⟩
theorem load_bool (a : Addr) (n : Int) (w : World) (h : w.cell? a = some (.int .u32 n)) :
 Calls Tryz.prog 133 #[.pointer (some a)] w fun e w' => e = .returned (.bool (n != 0)) /\ w' = w := by
 have hl := run_call_load (P := Tryz.prog) Tryz.func143 (by kernel_rfl) (by kernel_rfl) (by kernel_rfl) .u32 (by kernel_rfl) (w := w) (a := a) (x := n) h
 go_enter Tryz.func133, Tryz.ntmps133; go_wp2; go_ret; exact ⟨rfl, rfl⟩
theorem slow_of (b off : Nat) (x : Value) (w : World) (R : World -> Prop)
 (h0 : w.cell? ⟨b, off, none⟩ = some (.int .u32 0)) (h1 : w.cell? ⟨b, off + 1, none⟩ = some (.int .i32 0))
 (f0 : w.frozen? ⟨b, off, none⟩ = false) (f1 : w.frozen? ⟨b, off + 1, none⟩ = false)
 (hf : Calls Tryz.prog 119 #[x] (w.setCell ⟨b, off + 1, none⟩ (.int .i32 1)) fun e w2 => e = .returned (.tuple #[]) /\ R w2)
 (hR : ∀ w2, R w2 -> w2.cell? ⟨b, off, none⟩ = some (.int .u32 0) /\ w2.frozen? ⟨b, off, none⟩ = false /\ w2.cell? ⟨b, off + 1, none⟩ = some (.int .i32 1) /\ w2.frozen? ⟨b, off + 1, none⟩ = false) :
 Calls Tryz.prog 134 #[.pointer (some ⟨b, off, none⟩), .func (.func 119) #[x] #[]] w fun e w' => e = .returned (.tuple #[]) /\ ∃ w2, R w2 /\ w' = (w2.drew.setCell ⟨b, off, none⟩ (.int .u32 1)).setCell ⟨b, off + 1, none⟩ (.int .i32 0) := by
 have hL := hide_ (load_bool ⟨b, off, none⟩ 0 (w.setCell ⟨b, off + 1, none⟩ (.int .i32 1)) ((World.cell?_setCell_other _ ⟨b, off + 1, none⟩ ⟨b, off, none⟩ _ (by simp)).trans h0))
 have hnot : ∀ (x : Bool) (w : World), (Op.unary .not (.bool x)).run Tryz.prog w = .ok (.bool (!x)) w := fun _ _ => rfl; have HF := hide_ hf; have HR := hide_ hR; clear hf hR
 go_enter_defers Tryz.func134, Tryz.ntmps134
 go_wp2_with (go_at_call 144; refine (lock_free ⟨b, off + 1, none⟩ _ (by go_simp) (by go_simp)).mono ?_; rintro e w' ⟨rfl, rfl⟩)
 refine hL.out.mono ?_; rintro e w1 ⟨rfl, hw1⟩; have hw1' := hw1.symm; subst hw1'; clear hL hw1; go_wp2_with fail; refine HF.out.mono ?_; rintro e w2 ⟨rfl, h2⟩; obtain ⟨r0, r1, r2, r3⟩ := HR.out w2 h2; have HR2 := hide_ h2; clear HF HR h2; go_wp2_with fail; refine leaves_cons (f := 146) (args := #[.pointer (some ⟨b, off, none⟩), .bool true]) (by simp) (by simp [go_sem]) ?_
 refine (store_deferred ⟨b, off, none⟩ (.int .u32 0) .returning _ r0 r1).mono ?_; rintro e u' w'' ⟨rfl, rfl, rfl⟩; refine leaves_cons (f := 145) (args := #[.pointer (some ⟨b, off + 1, none⟩)]) (by simp [settle]) (by simp [go_sem]) ?_
 refine (unlock_deferred ⟨b, off + 1, none⟩ _ _ ?_ (by simp [r3])).mono ?_
 · refine (World.cell?_setCell_other _ ⟨b, off, none⟩ ⟨b, off + 1, none⟩ _ (by simp)).trans ?_
   rw [World.cell?_drew]; exact r2
 rintro e u' w'' ⟨rfl, rfl, rfl⟩
 first
  | exact ⟨_, results_none rfl _ _ _, rfl, _, HR2.out, rfl⟩
  | (simp only [Leaves, settle]; exact ⟨_, results_none rfl _ _ _, rfl, _, HR2.out, rfl⟩)
  | (have h := HR2.out; simp [Leaves, settle, results, Tryz.results134]; exact ⟨_, h, rfl⟩)
theorem do_first (b off : Nat) (x : Value) (w : World) (R : World -> Prop)
 (h0 : w.cell? ⟨b, off, none⟩ = some (.int .u32 0)) (h1 : w.cell? ⟨b, off + 1, none⟩ = some (.int .i32 0))
 (f0 : w.frozen? ⟨b, off, none⟩ = false) (f1 : w.frozen? ⟨b, off + 1, none⟩ = false)
 (hf : Calls Tryz.prog 119 #[x] (w.setCell ⟨b, off + 1, none⟩ (.int .i32 1)) fun e w2 => e = .returned (.tuple #[]) /\ R w2)
 (hR : ∀ w2, R w2 -> w2.cell? ⟨b, off, none⟩ = some (.int .u32 0) /\ w2.frozen? ⟨b, off, none⟩ = false /\ w2.cell? ⟨b, off + 1, none⟩ = some (.int .i32 1) /\ w2.frozen? ⟨b, off + 1, none⟩ = false) :
 Calls Tryz.prog 118 #[.pointer (some ⟨b, off, none⟩), .func (.func 119) #[x] #[]] w fun e w' => e = .returned (.tuple #[]) /\ ∃ w2, R w2 /\ w' = (w2.drew.setCell ⟨b, off, none⟩ (.int .u32 1)).setCell ⟨b, off + 1, none⟩ (.int .i32 0) := by
 have hL := hide_ (load_bool ⟨b, off, none⟩ 0 w h0); have hS := hide_ (slow_of b off x w R h0 h1 f0 f1 hf hR); have hnot : ∀ (x : Bool) (w : World), (Op.unary .not (.bool x)).run Tryz.prog w = .ok (.bool (!x)) w := fun _ _ => rfl; clear hf hR; go_enter Tryz.func118, Tryz.ntmps118; go_wp2_with fail; refine hL.out.mono ?_; rintro e w1 ⟨rfl, hw1⟩; have hw1' := hw1.symm; subst hw1'; clear hL hw1; go_wp2_with fail; refine hS.out.mono ?_; rintro e w2 ⟨rfl, h2⟩; have H2 := hide_ h2; clear hS h2; go_wp2_with fail
 go_end0
 exact ⟨rfl, H2.out⟩
theorem do_done (a : Addr) (fv : Value) (w : World) (h0 : w.cell? a = some (.int .u32 1)) :
 Calls Tryz.prog 118 #[.pointer (some a), fv] w fun e w' => e = .returned (.tuple #[]) /\ w' = w := by
 have hL := hide_ (load_bool a 1 w h0); have hnot : ∀ (x : Bool) (w : World), (Op.unary .not (.bool x)).run Tryz.prog w = .ok (.bool (!x)) w := fun _ _ => rfl; go_enter Tryz.func118, Tryz.ntmps118; go_wp2_with fail; refine hL.out.mono ?_; rintro e w1 ⟨rfl, hw1⟩; have hw1' := hw1.symm; subst hw1'; clear hL hw1; go_wp2_with fail
 go_end0
 exact ⟨rfl, rfl⟩
end On
end Go.Proofs.YtbbbnciejmdpfabGreatDoor

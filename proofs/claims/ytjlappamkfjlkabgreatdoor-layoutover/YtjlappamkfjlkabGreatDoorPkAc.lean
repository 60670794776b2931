/- What the laws of this seat lean on: 6 texts. -/
import Derived.Test.YtjlappamkfjlkabGreatDoorPkAb
import Derived.Test.YtjlappamkfjlkabGreatDoorRows
import Derived.WalkKit
import Derived.WalkSpells
import Derived.WalkLawsBesides
import Derived.Tactics
import Derived.Tactics2
import Derived.Defers
import Derived.Laws.Pointers
import Derived.Laws.LoneSync
import Derived.RegionTactic
import Derived.RegionCalls
import Derived.ChangeAlike
import Derived.BigQuiet
set_option maxRecDepth 100000
set_option maxHeartbeats 64000000
set_option linter.unusedVariables false
set_option linter.unusedSimpArgs false
namespace Go.Proofs.YtjlappamkfjlkabGreatDoor
open Go.RowKit
namespace Ow
theorem OwnX.putb {α : Type} {P : α -> List Value -> Prop} {w : World} {base e sz b k : Nat} {v u : Value} {l : List α} {cs : Array Value} {t : TypeId} (h : OwnX w base e sz P v l) (hb : w.heap[b]? = some (.cells cs t (0, 0))) (ht : t ≠ e) : OwnX (w.setCell ⟨b, k, none⟩ u) base e sz P v l :=
 h.keep (fun _ _ h => h) fun i c hi => (Below.heap_setCell w ⟨b, k, none⟩ u i (fun x => by
  have x : i = b := x; rw [x, hb] at hi; injection hi with hi; injection hi with _ h2 _
  exact ht h2)).trans hi
theorem OwnX.fx {α : Type} {P : α -> List Value -> Prop} {S : Nat -> Prop} {w w' : World} {base e sz : Nat} {v : Value} {l : List α} (h : OwnX w base e sz P v l) (hf : Fx S w w') (hs : ∀ (k : Nat) (c : Array Value), w.heap[k]? = some (.cells c e (0, 0)) -> ¬ S k) : OwnX w' base e sz P v l :=
 h.keep (fun _ _ h => h) fun i c hi => (hf.blk i (lt_of_blk hi) (hs i c hi)).trans hi
theorem step_app2 {α : Type} {P : α -> List Value -> Prop} {sz base e : Nat} {w : World} {v : Value} {l : List α} {Pr : Program} {ops : Array Oper} {o : Oper} {a : Act} {K : Act -> World -> Prop} {Q : Exit -> Act -> World -> Prop} {E : Prop} (hgd : o.guard = none) (s x : Operand) (t : TypeId)
 (hop : o.op = .call { callee := .builtin .append, args := #[s, x], argTypes := #[t, t] }) {i : TypeInfo} {bytes : Nat}
 (ht : Pr.underlying t = some (.slice e)) (hi : Pr.info? e = some i) (hz : i.zero.map (fun z => z.cells.size) = some sz) (hsize : i.size = sz) (hby : i.bytes = bytes) (hsz : 0 < sz) (hs : Shp P sz)
 (hv : a.eval s = v) (ho : OwnX w base e sz P v l) {v2 : Value} {l2 : List α} (hv2 : a.eval x = v2) (hr : RowX w sz P v2 l2) (h63 : l.length + l2.length <= 1000000) (hb2 : bytes <= 1000) (hbase : base <= w.heap.size)
 (h : ∀ v' w', OwnX w' base e sz P v' (l ++ l2) -> w.grownBy w' v.ownBlock -> (v'.ownBlock = v.ownBlock \/ v'.ownBlock = some w.heap.size) -> K (a.put o.dst v') w') :
 if Region.wanted o (yielded ops a.tmps) = true then Oper.wp Pr o a w K Q else E := by
 have hw : Region.wanted o (yielded ops a.tmps) = true := by simp [Region.wanted, hgd]
 rw [if_pos hw]; obtain ⟨v', w', hrun, h1, h2, h3⟩ := run_app2s (Pr := Pr) (t := t) (ty := o.type) (n := 0) ht hi hz hsize hby hsz hs ho hr h63 hb2 hbase; unfold Oper.wp execOp; simp only [hop, resolve, invoke, builtin, Sem.run_bind, Sem.run_pure, Result.andThen_ok, List.map_toArray, List.map_cons, List.map_nil, hv, hv2, hrun]; exact h v' w' h1 h2 h3
theorem i_own' : (Tryz.prog.info? 55).map (fun i => (i.zero.map (fun z => z.cells.size), i.size, i.bytes)) = some (some 10, 10, 144) := by kernel_rfl
end Ow
def Moved (w : World) (v v' : Value) : Prop := v'.ownBlock = v.ownBlock \/ ∃ q, w.heap.size <= q /\ v'.ownBlock = some q
def listC (cs : Array Value) (vs vm va : Value) : Array Value := ((cs.setIfInBounds 11 vs).setIfInBounds 12 vm).setIfInBounds 13 va
theorem inherit_any {α : Type} (PM : α -> List Value -> Prop) (hPM : Ow.Shp PM 10) (S : Nat -> Prop) (b s base : Nat) (cs ds : Array Value) (vs vm va us um ua : Value) (ls ks : List Pp.Slt) (lm km : List α) (la ka : List Nat) (w : World)
 (hb : w.heap[b]? = some (.cells cs 84 (0, 0))) (h14 : cs.size = 14) (b11 : cs[11]? = some vs) (b12 : cs[12]? = some vm) (b13 : cs[13]? = some va)
 (hs : w.heap[s]? = some (.cells ds 84 (0, 0))) (d11 : ds[11]? = some us) (d12 : ds[12]? = some um) (d13 : ds[13]? = some ua) (hns : ¬ S s)
 (hvs : RowX w 4 SltX vs ls) (hvm : Ow.OwnX w base 55 10 PM vm lm) (hva : Ow.OwnX w base 51 1 PtrX va la)
 (hus : RowX w 4 SltX us ks) (hum : Stb S w 10 PM um km) (hua : Stb S w 1 PtrX ua ka) (hbase : base <= w.heap.size)
 (hSb : S b) (hSm : ∀ k, vm.ownBlock = some k -> S k) (hSa : ∀ k, va.ownBlock = some k -> S k)
 (n1 : ks.length + ls.length <= 1000000) (n2 : lm.length + km.length <= 1000000) (n3 : la.length + ka.length <= 1000)
 (hl : Live w (la ++ ka)) (hx : ∀ x ∈ la ++ ka, S x -> x = b) :
 Calls Tryz.prog 52 #[.pointer (some ⟨b, 0, none⟩), .pointer (some ⟨s, 0, none⟩)] w fun e w' => e = .returned (.tuple #[]) /\ ∃ vs' vm' va', w'.heap[b]? = some (.cells (listC cs vs' vm' va') 84 (0, 0)) /\
  Ow.OwnX w' w.heap.size 66 4 SltX vs' (ks ++ ls) /\ Ow.OwnX w' base 55 10 PM vm' (lm ++ km) /\ Ow.OwnX w' base 51 1 PtrX va' (lookL la ka) /\ Fx S w w' /\ Moved w vm vm' /\ Moved w va va' := by
 have HB := hide hb; have HS := hide hs; have c11 : w.cell? ⟨b, 11, none⟩ = some vs := (cell_box hb 11).trans b11; have e11 : w.cell? ⟨s, 11, none⟩ = some us := (cell_box hs 11).trans d11; have hkb := Ow.lt_of_blk hb; have hks := Ow.lt_of_blk hs; have hA : Below w.heap.size w (w.alloc (.cells #[us, vs] 59)).drew := ((Below.refl _ _).alloc (Nat.le_refl _) _).drew; have hA0 : (w.alloc (.cells #[us, vs] 59)).drew.heap[w.heap.size]? = some (.cells #[us, vs] 59 (0, 0)) := heap_alloc_new w _; have hcon := concat_any w.heap.size 0 2 us vs ks ls (w.alloc (.cells #[us, vs] 59)).drew (hus.on hA fun _ _ h => h) (hvs.on hA fun _ _ h => h) (cell_box hA0 0) (cell_box hA0 1) (Ow.lt_of_blk hA0) n1
 have HCon : Hid (Calls Tryz.prog 73 #[.slice (some ⟨w.heap.size, 0, none⟩) 2 2] (w.alloc (.cells #[us, vs] 59)).drew fun e w' => ∃ v, e = .returned v /\ Ow.OwnX w' w.heap.size 66 4 SltX v (ks ++ ls) /\ Below w.heap.size w w') := hide (hcon.mono fun e w' h => by
  obtain ⟨v, h1, h2, h3⟩ := h
  exact ⟨v, h1, h2.low hA.size fun _ _ h => h, hA.trans (h3.mono hA.size)⟩)
 have HVM := hide hvm; have HVA := hide hva; have HUM := hide hum; have HUA := hide hua; have HSb := hide hSb; have HSm := hide hSm; have HSa := hide hSa; have HL := hide hl; have HX := hide hx; have HB14 := hide (And.intro h14 (And.intro b12 b13)); have HD := hide (And.intro d12 d13); have HNs := hide hns; have hne : s ≠ b := fun e => hns (e ▸ hSb); have HB11 := hide b11; have HN2 := hide n2; have HN3 := hide n3; obtain ⟨sa, sc, rfl, _⟩ := hvs.len; obtain ⟨ta, tc, rfl, _⟩ := hus.len; clear hb hs h14 b11 b12 b13 d11 d12 d13 hns hvs hvm hva hus hum hua hSb hSm hSa hl hx hA hA0 hcon n1 n2 n3; obtain ⟨nk, hnk⟩ : ∃ q, q = ks.length := ⟨_, rfl⟩; obtain ⟨nl, hnl⟩ : ∃ q, q = ls.length := ⟨_, rfl⟩; rw [<- hnk] at HCon e11; rw [<- hnl] at HCon c11 HB11; clear hnk hnl; obtain ⟨j0, hj, hj0, hj1, hj2⟩ := Ow.info_of' Ow.i_own'; go_enter Tryz.func52, Tryz.ntmps52; go_wp2_with fail
 go_region_law (first
  | (go_simp
     refine HCon.out.mono ?_; rintro e w9 ⟨v9, rfl, ho9, hb9⟩; have HO9 := hide ho9; have HB9 := hide hb9; clear ho9 hb9 HCon; have c9 : w9.cell? ⟨b, 11, none⟩ = some (.slice sa nl sc) := (HB9.out.cell hkb).trans c11; have z9 : w9.frozen? ⟨b, 11, none⟩ = false := Ow.fzl_blk ((HB9.out.block b hkb).trans HB.out) 11; obtain ⟨ya, yc, hv9⟩ := HO9.out.shape; obtain ⟨n9, hn9⟩ : ∃ q, q = (ks ++ ls).length := ⟨_, rfl⟩; rw [<- hn9] at hv9; clear hn9
     subst hv9))
 all_goals
  have HFa : Hid (Fx S w (w9.setCell ⟨b, 11, none⟩ (.slice ya n9 yc))) := hide ((Fx.below HB9.out).trans (Fx.set HSb.out _)); have hb9 := (HB9.out.block b hkb).trans HB.out; have hs9 := (HB9.out.block s hks).trans HS.out; have HBa : Hid ((w9.setCell ⟨b, 11, none⟩ (.slice ya n9 yc)).heap[b]? = some (.cells (cs.setIfInBounds 11 (.slice ya n9 yc)) 84 (0, 0))) := hide (put_blk hb9 _); have HSc : Hid ((w9.setCell ⟨b, 11, none⟩ (.slice ya n9 yc)).heap[s]? = some (.cells ds 84 (0, 0))) := hide ((Below.heap_setCell w9 ⟨b, 11, none⟩ _ s hne).trans hs9); have HOa := hide (HO9.out.putb (k := 11) (u := .slice ya n9 yc) hb9 (by decide))
  have HVMa := hide ((HVM.out.on HB9.out fun _ _ h => h).putb (k := 11) (u := .slice ya n9 yc) hb9 (by decide))
  have HVAa := hide ((HVA.out.on HB9.out fun _ _ h => h).putb (k := 11) (u := .slice ya n9 yc) hb9 (by decide))
  clear hb9 hs9 HVM HVA HO9 HB9 HB HS c9 z9 c11 e11
 all_goals
  generalize w9.setCell ⟨b, 11, none⟩ (.slice ya n9 yc) = w10 at *
  obtain ⟨c10, hc10⟩ : ∃ q, q = cs.setIfInBounds 11 (.slice ya n9 yc) := ⟨_, rfl⟩; have HC10 := hide hc10; rw [<- hc10] at HBa; have h12 : c10[12]? = some vm := by rw [hc10]; simp [HB14.out.2.1]
  have h13 : c10[13]? = some va := by rw [hc10]; simp [HB14.out.2.2]
  have H13 : Hid (c10[13]? = some va /\ c10.size = 14) := hide ⟨h13, by rw [hc10]; simp [HB14.out.1]⟩
  have r12 := (cell_box HBa.out 12).trans h12; have s12 := (cell_box HSc.out 12).trans HD.out.1; have HRm : Hid (RowX w10.drew 10 PM um km) := hide ((HUM.out.on HFa.out fun _ _ h => h).row.on (Below.drew (Below.refl _ _)) fun _ _ h => h); have HVMd : Hid (Ow.OwnX w10.drew base 55 10 PM vm lm) := hide (HVMa.out.on (Below.drew (Below.refl _ _)) fun _ _ h => h); have hbz : base <= w10.drew.heap.size := Nat.le_trans hbase HFa.out.size; obtain ⟨ma, mc, hvm'⟩ := HVMd.out.shape; obtain ⟨pa, pc, hum', _⟩ := HRm.out.len; obtain ⟨nm, hnm⟩ : ∃ q, q = lm.length := ⟨_, rfl⟩; obtain ⟨np, hnp⟩ : ∃ q, q = km.length := ⟨_, rfl⟩; rw [<- hnm] at hvm'; rw [<- hnp] at hum'; have HNb := hide (And.intro hnm hnp); subst hvm' hum'; have hn2 := HN2.out; clear hnm hnp hc10 h12 h13; go_wp2_with fail
  go_region_law (first
   | (refine Ow.step_app2 rfl (.tmp 21) (.tmp 25) 82 rfl Tryz.underlying82 hj hj0 hj1 hj2 (by decide) hPM (by first | rfl | simp [Act.eval, Act.put]) HVMd.out (by first | rfl | simp [Act.eval, Act.put]) HRm.out hn2 (by decide) hbz ?_
      intro v11 w11 ho11 hg11 hq11; have HO11 := hide ho11; have HG11 := hide hg11; have HQ11 := hide hq11
      have HB11x : Hid (w11.heap[b]? = some (.cells c10 84 (0, 0))) := hide ((hg11.block b (Ow.lt_of_blk HBa.out) (fun h => by
       obtain ⟨nw, _, hown⟩ := HVMd.out; obtain ⟨cc, hcc⟩ := Ow.own_at hown _ h.symm; have hcc : w10.heap[b]? = some (.cells cc 55 (0, 0)) := hcc; rw [HBa.out] at hcc
       cases hcc)).trans HBa.out)
      clear ho11 hg11 hq11
      have c11 : w11.cell? ⟨b, 12, none⟩ = some (.slice ma nm mc) := by
       rw [<- r12, cell_box HB11x.out 12, cell_box HBa.out 12]
      have z11 : w11.frozen? ⟨b, 12, none⟩ = false := Ow.fzl_blk HB11x.out 12; obtain ⟨xa, xc, hv11⟩ := HO11.out.shape; obtain ⟨n11, hn11⟩ : ∃ q, q = (lm ++ km).length := ⟨_, rfl⟩; rw [<- hn11] at hv11; clear hn11
      subst hv11))
 all_goals
  have hkm := Ow.kx_grown HVMd.out HG11.out; have hne2 : ¬ (some s = (Value.slice ma nm mc).ownBlock) := fun h => HNs.out (HSm.out s h.symm); have HFb : Hid (Fx S w (w11.setCell ⟨b, 12, none⟩ (.slice xa n11 xc))) := hide (((HFa.out.trans (Fx.below (Below.drew (Below.refl _ _)))).trans ((Fx.grown HG11.out).mono fun k _ h => HSm.out k h)).trans (Fx.set HSb.out _)); have HBb : Hid ((w11.setCell ⟨b, 12, none⟩ (.slice xa n11 xc)).heap[b]? = some (.cells (c10.setIfInBounds 12 (.slice xa n11 xc)) 84 (0, 0))) := hide (put_blk HB11x.out _); have HSd : Hid ((w11.setCell ⟨b, 12, none⟩ (.slice xa n11 xc)).heap[s]? = some (.cells ds 84 (0, 0))) := hide ((Below.heap_setCell w11 ⟨b, 12, none⟩ _ s hne).trans ((HG11.out.block s (Ow.lt_of_blk HSc.out) hne2).trans HSc.out)); have HOb := hide (((HOa.out.on (Below.drew (Below.refl _ _)) fun _ _ h => h).kx hkm (by decide) fun _ _ h => h).putb (k := 12) (u := .slice xa n11 xc) HB11x.out (by decide))
  have HVAb := hide (((HVAa.out.on (Below.drew (Below.refl _ _)) fun _ _ h => h).kx hkm (by decide) fun _ _ h => h).putb (k := 12) (u := .slice xa n11 xc) HB11x.out (by decide))
  have HVMb := hide (HO11.out.putb (k := 12) (u := .slice xa n11 xc) HB11x.out (by decide))
  have HMv : Hid (Moved w (.slice ma nm mc) (.slice xa n11 xc)) := hide (by
   rcases HQ11.out with h | h
   · exact .inl h
   · exact .inr ⟨_, HFa.out.size, h⟩)
  clear hkm hne2 HO11 HG11 HQ11 HB11x c11 z11 HVMd HOa HVAa HVMa HBa HSc HRm hbz r12 s12
 all_goals
  generalize w11.setCell ⟨b, 12, none⟩ (.slice xa n11 xc) = w12 at *
  have s13 := (cell_box HSd.out 13).trans HD.out.2; have hbz : base <= w12.heap.size := Nat.le_trans hbase HFb.out.size
  have HLk := hide (lookAlso_any (fun k => k = b \/ va.ownBlock = some k) ka la b base (c10.setIfInBounds 12 (.slice xa n11 xc)) va ua w12 HBb.out (by simp [H13.out.2]) (by simp [H13.out.1]) HVAb.out hbz (.inl rfl) (fun k h => .inr h)
   ((HUA.out.on HFb.out fun _ _ h => h).sub fun k _ h => by
     rcases h with rfl | h
     · exact HSb.out
     · exact HSa.out k h) HN3.out (HL.out.more HFb.out fun x hx hs => by rw [HX.out x hx hs]; exact ⟨_, HBb.out⟩) (fun x hx h => by
     rcases h with h | h
     · exact h
     · exact HX.out x hx (HSa.out x h)))
  obtain ⟨qa, qc, hua', _⟩ := HUA.out.row.len; obtain ⟨nq, hnq⟩ : ∃ q, q = ka.length := ⟨_, rfl⟩; rw [<- hnq] at hua'; clear hnq; subst hua'; go_wp2_with fail; refine HLk.out.mono ?_; rintro e w13 ⟨rfl, va', hb13, ho13, hf13, hm13⟩
  have hsl : Ow.OwnX w13 w.heap.size 66 4 SltX (.slice ya n9 yc) (ks ++ ls) := HOb.out.fx hf13 fun k c hk h => by
   rcases h with rfl | h
   · rw [HBb.out] at hk; injection hk with hk; injection hk with _ hk; exact absurd hk (by decide)
   · obtain ⟨nw, _, hown⟩ := HVAb.out
     obtain ⟨cc, hcc⟩ := Ow.own_at hown _ h; rw [hk] at hcc; injection hcc with hcc; injection hcc with _ hcc; exact absurd hcc (by decide)
  have hml : Ow.OwnX w13 base 55 10 PM (.slice xa n11 xc) (lm ++ km) := HVMb.out.fx hf13 fun k c hk h => by
   rcases h with rfl | h
   · rw [HBb.out] at hk; injection hk with hk; injection hk with _ hk; exact absurd hk (by decide)
   · obtain ⟨nw, _, hown⟩ := HVAb.out
     obtain ⟨cc, hcc⟩ := Ow.own_at hown _ h; rw [hk] at hcc; injection hcc with hcc; injection hcc with _ hcc; exact absurd hcc (by decide)
  have hff : Fx S w w13 := HFb.out.trans (hf13.mono fun k _ h => by
   rcases h with rfl | h
   · exact HSb.out
   · exact HSa.out k h)
  have hmv : Moved w va va' := by
   rcases hm13 with h | ⟨q, h, h2⟩
   · exact .inl h
   · exact .inr ⟨q, Nat.le_trans HFb.out.size h, h2⟩
  have hbf : w13.heap[b]? = some (.cells (listC cs (.slice ya n9 yc) (.slice xa n11 xc) va') 84 (0, 0)) := by
   rw [hb13, HC10.out]; rfl
  have HEnd := hide (And.intro hbf (And.intro hsl (And.intro hml (And.intro ho13 (And.intro hff (And.intro HMv.out hmv)))))); clear hbf hsl hml ho13 hff hmv hb13 hf13 hm13 HLk; go_wp2_with fail; exact bodyPost_end (v := .tuple #[]) (by simp [results, Tryz.results52, go_sem]) rfl ⟨rfl, _, _, _, HEnd.out⟩
namespace On
theorem hide_ {p : Prop} (h : p) : Hid p := h
theorem disable (w : World) : (callFunc 99 #[]).run Tryz.prog w = .ok (.value (.tuple #[])) w := run_call_mark0 Tryz.func99 (by kernel_rfl) (by kernel_rfl) (by kernel_rfl) .disable (by kernel_rfl) w
theorem enable (w : World) : (callFunc 101 #[]).run Tryz.prog w = .ok (.value (.tuple #[])) w := run_call_mark0 Tryz.func101 (by kernel_rfl) (by kernel_rfl) (by kernel_rfl) .enable (by kernel_rfl) w
theorem acquire (a : Addr) (w : World) : (callFunc 102 #[.pointer (some a)]).run Tryz.prog w = .ok (.value (.tuple #[])) w := run_call_marked Tryz.func102 (by kernel_rfl) (by kernel_rfl) (by kernel_rfl) .acquire (by kernel_rfl) a w
theorem releaseMerge (a : Addr) (w : World) : (callFunc 104 #[.pointer (some a)]).run Tryz.prog w = .ok (.value (.tuple #[])) w := run_call_marked Tryz.func104 (by kernel_rfl) (by kernel_rfl) (by kernel_rfl) .releaseMerge (by kernel_rfl) a w
theorem store_deferred (a : Addr) (x : Value) (u : FrameMode) (w : World) (hc : w.cell? a = some x) (hz : w.frozen? a = false) :
 CallsD Tryz.prog 72 #[.pointer (some a), .bool true] u w fun e u' w' => u' = u /\ (e = .returned (.tuple #[]) /\ w' = w.drew.setCell a (.int .u32 1)) := by
 have hc' : w.drew.cell? a = some x := by go_simp
 have hz' : w.drew.frozen? a = false := by go_simp
 have hst := run_call_store (P := Tryz.prog) Tryz.func89 (by kernel_rfl) (by kernel_rfl) (by kernel_rfl) (by kernel_rfl) (k := .u32) (y := 1) hc' hz'
 go_enter_d Tryz.func72, Tryz.ntmps72
 go_wp2
 go_region_calls
 all_goals (go_end0; exact ⟨rfl, rfl⟩)
theorem unlock_deferred (a : Addr) (u : FrameMode) (w : World) (hc : w.cell? a = some (.int .i32 1)) (hz : w.frozen? a = false) :
 CallsD Tryz.prog 71 #[.pointer (some a)] u w fun e u' w' => u' = u /\ (e = .returned (.tuple #[]) /\ w' = w.setCell a (.int .i32 0)) := by
 have hd := disable; have he := enable; have hr := releaseMerge; have hadd := run_call_add (P := Tryz.prog) Tryz.func105 (by kernel_rfl) (by kernel_rfl) (by kernel_rfl) .i32 (by kernel_rfl) (y := -1) (s := 0) hc hz (by simp [go_sem]; rfl)
 have hcv := run_convert_to_unsafe (P := Tryz.prog) (src := 162) (dst := 166) Tryz.underlying162 Tryz.underlying166 (by kernel_rfl) hc
 go_enter_d Tryz.func71, Tryz.ntmps71
 go_wp2
 go_end0
 go_wp2
 go_end0
 exact ⟨rfl, rfl⟩
theorem lock_free (a : Addr) (w : World) (hc : w.cell? a = some (.int .i32 0)) (hz : w.frozen? a = false) :
 Calls Tryz.prog 70 #[.pointer (some a)] w fun e w' => e = .returned (.tuple #[]) /\ w' = w.setCell a (.int .i32 1) := by
 have hd := disable; have he := enable; have ha := acquire; have hcas := run_call_cas_hit (P := Tryz.prog) Tryz.func100 (by kernel_rfl) (by kernel_rfl) (by kernel_rfl) .i32 (by kernel_rfl) (y := 1) hc hz
 have hc' : (w.setCell a (.int .i32 1)).cell? a = some (.int .i32 1) := World.cell?_setCell_same w a _ hc; have hcv := run_convert_to_unsafe (P := Tryz.prog) (src := 162) (dst := 166) Tryz.underlying162 Tryz.underlying166 (by kernel_rfl) hc'
 go_enter Tryz.func70, Tryz.ntmps70; go_wp2
 first | go_end0 | (simp only [Exit.inBlock, Exit.then]; refine bodyPost_ret (results_none rfl _ _ _) rfl ?_) | refine bodyPost_ret (results_none rfl _ _ _) rfl ?_
 go_wp2
 go_end0
 exact ⟨rfl, rfl⟩
theorem load_bool (a : Addr) (n : Int) (w : World) (h : w.cell? a = some (.int .u32 n)) :
 Calls Tryz.prog 49 #[.pointer (some a)] w fun e w' => e = .returned (.bool (n != 0)) /\ w' = w := by
 have hl := run_call_load (P := Tryz.prog) Tryz.func69 (by kernel_rfl) (by kernel_rfl) (by kernel_rfl) .u32 (by kernel_rfl) (w := w) (a := a) (x := n) h
 go_enter Tryz.func49, Tryz.ntmps49; go_wp2; go_ret; exact ⟨rfl, rfl⟩
theorem slow_of (b off : Nat) (x : Value) (w : World) (R : World -> Prop)
 (h0 : w.cell? ⟨b, off, none⟩ = some (.int .u32 0)) (h1 : w.cell? ⟨b, off + 1, none⟩ = some (.int .i32 0))
 (f0 : w.frozen? ⟨b, off, none⟩ = false) (f1 : w.frozen? ⟨b, off + 1, none⟩ = false)
 (hf : Calls Tryz.prog 31 #[x] (w.setCell ⟨b, off + 1, none⟩ (.int .i32 1)) fun e w2 => e = .returned (.tuple #[]) /\ R w2)
 (hR : ∀ w2, R w2 -> w2.cell? ⟨b, off, none⟩ = some (.int .u32 0) /\ w2.frozen? ⟨b, off, none⟩ = false /\ w2.cell? ⟨b, off + 1, none⟩ = some (.int .i32 1) /\ w2.frozen? ⟨b, off + 1, none⟩ = false) :
 Calls Tryz.prog 50 #[.pointer (some ⟨b, off, none⟩), .func (.func 31) #[x] #[]] w fun e w' => e = .returned (.tuple #[]) /\ ∃ w2, R w2 /\ w' = (w2.drew.setCell ⟨b, off, none⟩ (.int .u32 1)).setCell ⟨b, off + 1, none⟩ (.int .i32 0) := by
 have hL := hide_ (load_bool ⟨b, off, none⟩ 0 (w.setCell ⟨b, off + 1, none⟩ (.int .i32 1)) ((World.cell?_setCell_other _ ⟨b, off + 1, none⟩ ⟨b, off, none⟩ _ (by simp)).trans h0))
 have hnot : ∀ (x : Bool) (w : World), (Op.unary .not (.bool x)).run Tryz.prog w = .ok (.bool (!x)) w := fun _ _ => rfl; have HF := hide_ hf; have HR := hide_ hR; clear hf hR
 go_enter_defers Tryz.func50, Tryz.ntmps50
 go_wp2_with (go_at_call 70; refine (lock_free ⟨b, off + 1, none⟩ _ (by go_simp) (by go_simp)).mono ?_; rintro e w' ⟨rfl, rfl⟩)
 refine hL.out.mono ?_; rintro e w1 ⟨rfl, hw1⟩; have hw1' := hw1.symm; subst hw1'; clear hL hw1; go_wp2_with fail; refine HF.out.mono ?_; rintro e w2 ⟨rfl, h2⟩; obtain ⟨r0, r1, r2, r3⟩ := HR.out w2 h2; have HR2 := hide_ h2; clear HF HR h2; go_wp2_with fail; refine leaves_cons (f := 72) (args := #[.pointer (some ⟨b, off, none⟩), .bool true]) (by simp) (by simp [go_sem]) ?_
 refine (store_deferred ⟨b, off, none⟩ (.int .u32 0) .returning _ r0 r1).mono ?_; rintro e u' w'' ⟨rfl, rfl, rfl⟩; refine leaves_cons (f := 71) (args := #[.pointer (some ⟨b, off + 1, none⟩)]) (by simp [settle]) (by simp [go_sem]) ?_
 refine (unlock_deferred ⟨b, off + 1, none⟩ _ _ ?_ (by simp [r3])).mono ?_
 · refine (World.cell?_setCell_other _ ⟨b, off, none⟩ ⟨b, off + 1, none⟩ _ (by simp)).trans ?_
   rw [World.cell?_drew]; exact r2
 rintro e u' w'' ⟨rfl, rfl, rfl⟩
 first
  | exact ⟨_, results_none rfl _ _ _, rfl, _, HR2.out, rfl⟩
  | (simp only [Leaves, settle]; exact ⟨_, results_none rfl _ _ _, rfl, _, HR2.out, rfl⟩)
  | (have h := HR2.out; simp [Leaves, settle, results, Tryz.results50]; exact ⟨_, h, rfl⟩)
theorem do_first (b off : Nat) (x : Value) (w : World) (R : World -> Prop)
 (h0 : w.cell? ⟨b, off, none⟩ = some (.int .u32 0)) (h1 : w.cell? ⟨b, off + 1, none⟩ = some (.int .i32 0))
 (f0 : w.frozen? ⟨b, off, none⟩ = false) (f1 : w.frozen? ⟨b, off + 1, none⟩ = false)
 (hf : Calls Tryz.prog 31 #[x] (w.setCell ⟨b, off + 1, none⟩ (.int .i32 1)) fun e w2 => e = .returned (.tuple #[]) /\ R w2)
 (hR : ∀ w2, R w2 -> w2.cell? ⟨b, off, none⟩ = some (.int .u32 0) /\ w2.frozen? ⟨b, off, none⟩ = false /\ w2.cell? ⟨b, off + 1, none⟩ = some (.int .i32 1) /\ w2.frozen? ⟨b, off + 1, none⟩ = false) :
 Calls Tryz.prog 30 #[.pointer (some ⟨b, off, none⟩), .func (.func 31) #[x] #[]] w fun e w' => e = .returned (.tuple #[]) /\ ∃ w2, R w2 /\ w' = (w2.drew.setCell ⟨b, off, none⟩ (.int .u32 1)).setCell ⟨b, off + 1, none⟩ (.int .i32 0) := by
 have hL := hide_ (load_bool ⟨b, off, none⟩ 0 w h0); have hS := hide_ (slow_of b off x w R h0 h1 f0 f1 hf hR); have hnot : ∀ (x : Bool) (w : World), (Op.unary .not (.bool x)).run Tryz.prog w = .ok (.bool (!x)) w := fun _ _ => rfl; clear hf hR; go_enter Tryz.func30, Tryz.ntmps30; go_wp2_with fail; refine hL.out.mono ?_; rintro e w1 ⟨rfl, hw1⟩; have hw1' := hw1.symm; subst hw1'; clear hL hw1; go_wp2_with fail; refine hS.out.mono ?_; rintro e w2 ⟨rfl, h2⟩; have H2 := hide_ h2; clear hS h2; go_wp2_with fail
 go_end0
 exact ⟨rfl, H2.out⟩
theorem do_done (a : Addr) (fv : Value) (w : World) (h0 : w.cell? a = some (.int .u32 1)) :
 Calls Tryz.prog 30 #[.pointer (some a), fv] w fun e w' => e = .returned (.tuple #[]) /\ w' = w := by
 have hL := hide_ (load_bool a 1 w h0); have hnot : ∀ (x : Bool) (w : World), (Op.unary .not (.bool x)).run Tryz.prog w = .ok (.bool (!x)) w := fun _ _ => rfl; go_enter Tryz.func30, Tryz.ntmps30; go_wp2_with fail; refine hL.out.mono ?_; rintro e w1 ⟨rfl, hw1⟩; have hw1' := hw1.symm; subst hw1'; clear hL hw1; go_wp2_with fail
 go_end0
 exact ⟨rfl, rfl⟩
end On
structure Net where
 T : Nat -> Prop
 cl : Nat -> Pp.XCls
 sup : Nat -> Option Nat
 ifs : Nat -> List Nat
 rk : Nat -> Nat
structure Net.Good (N : Net) : Prop where
 sup : ∀ b s, N.T b -> N.sup b = some s -> N.T s /\ N.rk s < N.rk b
 ifs : ∀ b i, N.T b -> i ∈ N.ifs b -> N.T i /\ N.rk i < N.rk b
theorem foldl_alike {α β : Type} {f g : α -> β -> α} : ∀ {l : List β} {a : α}, (∀ a b, b ∈ l -> f a b = g a b) -> l.foldl f a = l.foldl g a
 | [], _, _ => rfl
 | b :: l, a, h => by
   rw [List.foldl_cons, List.foldl_cons, h a b (by simp)]
   exact foldl_alike fun a c hc => h a c (List.mem_cons_of_mem _ hc)
namespace Net
variable (N : Net)
def abF : Nat -> Nat -> List Nat
 | 0, _ => []
 | n + 1, b =>
   match N.sup b with
   | none => (N.ifs b).foldl (fun a i => lookL a (abF n i)) (if (N.cl b).iface then [b] else [])
   | some s => lookL ((N.ifs b).foldl (fun a i => lookL a (abF n i)) (if (N.cl b).iface then [b] else [])) (abF n s)
def slF : Nat -> Nat -> List Pp.Slt
 | 0, _ => []
 | n + 1, b =>
   match N.sup b with
   | none => Pp.ownL (N.cl b) false (N.cl b).fields
   | some s => slF n s ++ Pp.ownL (N.cl b) false (N.cl b).fields
def ownM (c : Pp.XCls) : List (Pp.Bs × Pp.XMth) := c.methods.map fun m => (c.name, m)
def mtF : Nat -> Nat -> List (Pp.Bs × Pp.XMth)
 | 0, _ => []
 | n + 1, b =>
   match N.sup b with
   | none => ownM (N.cl b)
   | some s => ownM (N.cl b) ++ mtF n s
def ab (b : Nat) := N.abF (N.rk b + 1) b
def sl (b : Nat) := N.slF (N.rk b + 1) b
def mt (b : Nat) := N.mtF (N.rk b + 1) b
variable {N}
theorem Good.abF (h : N.Good) : ∀ n m b, N.T b -> N.rk b < n -> N.rk b < m -> N.abF n b = N.abF m b
 | n + 1, m + 1, b, hb, h1, h2 => by
   have hi : ∀ a : List Nat, (N.ifs b).foldl (fun a i => lookL a (N.abF n i)) a = (N.ifs b).foldl (fun a i => lookL a (N.abF m i)) a := fun a =>
    foldl_alike fun a i hm => by
     obtain ⟨p1, p2⟩ := h.ifs b i hb hm; rw [Good.abF h n m i p1 (by omega) (by omega)]
   unfold Net.abF; cases hs : N.sup b with
   | none => exact hi _
   | some s =>
     obtain ⟨p1, p2⟩ := h.sup b s hb hs; show lookL _ _ = lookL _ _; rw [hi, Good.abF h n m s p1 (by omega) (by omega)]
theorem Good.slF (h : N.Good) : ∀ n m b, N.T b -> N.rk b < n -> N.rk b < m -> N.slF n b = N.slF m b
 | n + 1, m + 1, b, hb, h1, h2 => by
   unfold Net.slF; cases hs : N.sup b with
   | none => rfl
   | some s =>
     obtain ⟨p1, p2⟩ := h.sup b s hb hs; show _ ++ _ = _ ++ _; rw [Good.slF h n m s p1 (by omega) (by omega)]
theorem Good.mtF (h : N.Good) : ∀ n m b, N.T b -> N.rk b < n -> N.rk b < m -> N.mtF n b = N.mtF m b
 | n + 1, m + 1, b, hb, h1, h2 => by
   unfold Net.mtF; cases hs : N.sup b with
   | none => rfl
   | some s =>
     obtain ⟨p1, p2⟩ := h.sup b s hb hs; show _ ++ _ = _ ++ _; rw [Good.mtF h n m s p1 (by omega) (by omega)]
def ab0 (N : Net) (b : Nat) (l : List Nat) : List Nat := l.foldl (fun a i => lookL a (N.ab i)) (if (N.cl b).iface then [b] else [])
theorem Good.ab (h : N.Good) (b : Nat) (hb : N.T b) : N.ab b = match N.sup b with | none => N.ab0 b (N.ifs b) | some s => lookL (N.ab0 b (N.ifs b)) (N.ab s) := by
 have hi : ∀ a : List Nat, (N.ifs b).foldl (fun a i => lookL a (N.abF (N.rk b) i)) a = (N.ifs b).foldl (fun a i => lookL a (N.ab i)) a := fun a =>
  foldl_alike fun a i hm => by
   obtain ⟨p1, p2⟩ := h.ifs b i hb hm; rw [h.abF (N.rk b) (N.rk i + 1) i p1 (by omega) (by omega)]
   rfl
 show Net.abF N (N.rk b + 1) b = _; unfold Net.abF Net.ab0; cases hs : N.sup b with
 | none => exact hi _
 | some s =>
   obtain ⟨p1, p2⟩ := h.sup b s hb hs; show lookL _ _ = lookL _ _; rw [hi, h.abF (N.rk b) (N.rk s + 1) s p1 (by omega) (by omega)]
   rfl
theorem Good.sl (h : N.Good) (b : Nat) (hb : N.T b) : N.sl b = match N.sup b with | none => Pp.ownL (N.cl b) false (N.cl b).fields | some s => N.sl s ++ Pp.ownL (N.cl b) false (N.cl b).fields := by
 show Net.slF N (N.rk b + 1) b = _; unfold Net.slF; cases hs : N.sup b with
 | none => rfl
 | some s =>
   obtain ⟨p1, p2⟩ := h.sup b s hb hs; show _ ++ _ = _ ++ _; rw [h.slF (N.rk b) (N.rk s + 1) s p1 (by omega) (by omega)]
   rfl
theorem Good.mt (h : N.Good) (b : Nat) (hb : N.T b) : N.mt b = match N.sup b with | none => ownM (N.cl b) | some s => ownM (N.cl b) ++ N.mt s := by
 show Net.mtF N (N.rk b + 1) b = _; unfold Net.mtF; cases hs : N.sup b with
 | none => rfl
 | some s =>
   obtain ⟨p1, p2⟩ := h.sup b s hb hs; show _ ++ _ = _ ++ _; rw [h.mtF (N.rk b) (N.rk s + 1) s p1 (by omega) (by omega)]
   rfl
end Net
def PMt (w0 : World) (o : Pp.Bs × Pp.XMth) (ys : List Value) : Prop := ∃ ms, ys = .string ⟨o.1.toArray⟩ :: ms /\ MthX w0 o.2 ms
theorem shp_pmt (w0 : World) : Ow.Shp (PMt w0) 10 := by
 rintro x ys ⟨ms, rfl, vp, vc, vk, rfl, r1, r2, r3, _⟩; obtain ⟨_, _, rfl, _⟩ := r1; obtain ⟨_, _, rfl, _⟩ := r2; obtain ⟨_, _, rfl, _⟩ := r3; refine ⟨rfl, ?_⟩; intro u hu; simp [mthXL] at hu
 rcases hu with rfl | rfl | rfl | rfl | rfl | rfl | rfl | rfl | rfl | rfl <;> rfl
def Done (N : Net) (w0 w : World) (S : Nat -> Prop) (cs : Array Value) (b : Nat) : Prop :=
 ∃ vs vm va, cs[11]? = some vs /\ cs[12]? = some vm /\ cs[13]? = some va /\ Stb S w 4 SltX vs (N.sl b) /\ Stb S w 10 (PMt w0) vm (N.mt b) /\ Stb S w 1 PtrX va (N.ab b)
def Bare (cs : Array Value) : Prop := cs[11]? = some (.slice none 0 0) /\ cs[12]? = some (.slice none 0 0) /\ cs[13]? = some (.slice none 0 0)
def Self (N : Net) (w0 w : World) (S : Nat -> Prop) (cs : Array Value) (b : Nat) : Prop :=
 cs.size = 14 /\ (∃ ys, ClsX w0 (N.cl b) ys /\ ∀ (j : Nat) (u : Value), ys[j]? = some u -> cs[j]? = some u) /\ cs[6]? = some (.pointer ((N.sup b).map fun s => ⟨s, 0, none⟩)) /\ ∃ vi, cs[7]? = some vi /\ Stb S w 1 PtrX vi (N.ifs b)
def Ent (N : Net) (w0 w : World) (D A : Nat -> Prop) (b : Nat) : Prop :=
 ∃ cs, w.heap[b]? = some (.cells cs 84 (0, 0)) /\ Self N w0 w (fun k => N.T k \/ A k) cs b /\ cs[9]? = some (.int .i32 0) /\ cs[10]? = some (.int .u32 0) /\
   (D b -> cs[8]? = some (.int .u32 1) /\ Done N w0 w (fun k => N.T k \/ A k) cs b) /\ (¬ D b -> cs[8]? = some (.int .u32 0) /\ Bare cs)
def Inv (N : Net) (w0 w : World) (D A : Nat -> Prop) (r : Nat) : Prop := ∀ b, N.T b -> N.rk b < r -> Ent N w0 w D A b
theorem Done.on {N : Net} {w0 w w' : World} {S S' : Nat -> Prop} {cs : Array Value} {b : Nat} (h : Done N w0 w S cs b) (hf : Fx S' w w') (hs : ∀ k, k < w.heap.size -> S' k -> S k) : Done N w0 w' S cs b := by
 obtain ⟨vs, vm, va, h1, h2, h3, r1, r2, r3⟩ := h; have hf' : Fx S w w' := hf.mono hs; exact ⟨vs, vm, va, h1, h2, h3, r1.on hf' fun _ _ h => h, r2.on hf' fun _ _ h => h, r3.on hf' fun _ _ h => h⟩
theorem Done.more {N : Net} {w0 w : World} {S S' : Nat -> Prop} {cs : Array Value} {b : Nat} (h : Done N w0 w S cs b) (hs : ∀ k, k < w.heap.size -> S' k -> S k) : Done N w0 w S' cs b := by
 obtain ⟨vs, vm, va, h1, h2, h3, r1, r2, r3⟩ := h; exact ⟨vs, vm, va, h1, h2, h3, r1.sub hs, r2.sub hs, r3.sub hs⟩
theorem Self.on {N : Net} {w0 w w' : World} {S S' : Nat -> Prop} {cs : Array Value} {b : Nat} (h : Self N w0 w S cs b) (hf : Fx S' w w') (hs : ∀ k, k < w.heap.size -> S' k -> S k) : Self N w0 w' S cs b := by
 obtain ⟨h1, h2, h3, vi, h4, r⟩ := h; exact ⟨h1, h2, h3, vi, h4, r.on (hf.mono hs) fun _ _ h => h⟩
theorem Self.more {N : Net} {w0 w : World} {S S' : Nat -> Prop} {cs : Array Value} {b : Nat} (h : Self N w0 w S cs b) (hs : ∀ k, k < w.heap.size -> S' k -> S k) : Self N w0 w S' cs b := by
 obtain ⟨h1, h2, h3, vi, h4, r⟩ := h; exact ⟨h1, h2, h3, vi, h4, r.sub hs⟩
theorem Ent.on {N : Net} {w0 w w' : World} {D D' A S : Nat -> Prop} {b : Nat} (h : Ent N w0 w D A b) (hf : Fx S w w') (hs : ∀ k, k < w.heap.size -> S k -> k ≠ b /\ (N.T k \/ A k)) (hd : D' b ↔ D b) : Ent N w0 w' D' A b := by
 obtain ⟨cs, h1, h2, h3, h4, h5, h6⟩ := h; have hlt := Ow.lt_of_blk h1; exact ⟨cs, (hf.blk b hlt fun hb => (hs b hlt hb).1 rfl).trans h1, h2.on hf fun k hk h => (hs k hk h).2, h3, h4, fun hb => ⟨(h5 (hd.1 hb)).1, (h5 (hd.1 hb)).2.on hf fun k hk h => (hs k hk h).2⟩, fun hb => h6 fun h => hb (hd.2 h)⟩
theorem Ent.more {N : Net} {w0 w : World} {D A A' : Nat -> Prop} {b : Nat} (h : Ent N w0 w D A b) (ha : ∀ k, k < w.heap.size -> A' k -> A k) : Ent N w0 w D A' b := by
 obtain ⟨cs, h1, h2, h3, h4, h5, h6⟩ := h; have hs : ∀ k, k < w.heap.size -> (N.T k \/ A' k) -> (N.T k \/ A k) := fun k hk h => h.imp id (ha k hk); exact ⟨cs, h1, h2.more hs, h3, h4, fun hb => ⟨(h5 hb).1, (h5 hb).2.more hs⟩, h6⟩
def Filled (N : Net) (w0 w w2 : World) (D D' A : Nat -> Prop) (x : Nat) : Prop :=
 (∀ k, D k -> D' k) /\ (∀ k, D' k -> D k \/ N.T k /\ N.rk k < N.rk x) /\ Inv N w0 w2 D' A (N.rk x) /\ Fx (fun k => N.T k /\ (k = x \/ N.rk k < N.rk x)) w w2 /\
   ∃ cs c2, w.heap[x]? = some (.cells cs 84 (0, 0)) /\ w2.heap[x]? = some (.cells c2 84 (0, 0)) /\ c2.size = 14 /\ (∀ k, k < 11 -> c2[k]? = cs[k]?) /\ Done N w0 w2 (fun k => N.T k \/ A k) c2 x
def Made (N : Net) (w0 : World) (x : Nat) : Prop := ∀ (w : World) (D A : Nat -> Prop) (r : Nat), N.rk x < r -> Inv N w0 w D A r -> (∀ k, A k -> k < w.heap.size /\ ¬ N.T k) -> Below w0.heap.size w0 w -> (∀ k, N.T k -> k < w.heap.size) ->
 Calls Tryz.prog 21 #[.pointer (some ⟨x, 0, none⟩)] w fun e w' => e = .returned (.pointer (some ⟨x, 0, none⟩)) /\
  ∃ D' : Nat -> Prop, (∀ k, D k -> D' k) /\ D' x /\ (∀ k, D' k -> D k \/ N.T k /\ (k = x \/ N.rk k < N.rk x)) /\ Inv N w0 w' D' A r /\ Fx (fun k => N.T k /\ (k = x \/ N.rk k < N.rk x)) w w'
theorem made_done (N : Net) (w0 : World) (x : Nat) (hT : N.T x) (w : World) (D A : Nat -> Prop) (r : Nat) (hr : N.rk x < r) (hI : Inv N w0 w D A r) (hD : D x) :
 Calls Tryz.prog 21 #[.pointer (some ⟨x, 0, none⟩)] w fun e w' => e = .returned (.pointer (some ⟨x, 0, none⟩)) /\ w' = w := by
 obtain ⟨cs, h1, _, _, _, h5, _⟩ := hI x hT hr; have HD := hide (On.do_done ⟨x, 8, none⟩ (.func (.func 31) #[.pointer (some ⟨x, 0, none⟩)] #[]) w ((cell_box h1 8).trans (h5 hD).1)); clear hI h1 h5; go_enter Tryz.func21, Tryz.ntmps21; go_wp2_with fail; refine HD.out.mono ?_; rintro e w1 ⟨rfl, hw1⟩; have hw1' := hw1.symm; subst hw1'; clear HD hw1; go_wp2_with fail; go_ret; exact ⟨rfl, rfl⟩
theorem Self.cells {N : Net} {w0 w : World} {S : Nat -> Prop} {cs c2 : Array Value} {b : Nat} (h : Self N w0 w S cs b) (hs : c2.size = 14) (hc : ∀ k, k < 8 -> c2[k]? = cs[k]?) : Self N w0 w S c2 b := by
 obtain ⟨h1, ⟨ys, hy, hj⟩, h3, vi, h4, r⟩ := h; refine ⟨hs, ⟨ys, hy, fun j u hu => ?_⟩, (hc 6 (by decide)).trans h3, vi, (hc 7 (by decide)).trans h4, r⟩
 have hlt : j < ys.length := (List.getElem?_eq_some_iff.1 hu).1; obtain ⟨_, _, _, rfl, _⟩ := hy; have : j < 6 := hlt; exact (hc j (by omega)).trans (hj j u hu)
theorem Done.cells {N : Net} {w0 w : World} {S : Nat -> Prop} {cs c2 : Array Value} {b : Nat} (h : Done N w0 w S cs b) (hc : ∀ k, 11 <= k -> c2[k]? = cs[k]?) : Done N w0 w S c2 b := by
 obtain ⟨vs, vm, va, h1, h2, h3, r⟩ := h; exact ⟨vs, vm, va, (hc 11 (by decide)).trans h1, (hc 12 (by decide)).trans h2, (hc 13 (by decide)).trans h3, r⟩
theorem set_at {c : Array Value} {i k : Nat} (u : Value) (h : i ≠ k) : (c.setIfInBounds i u)[k]? = c[k]? := by
 rw [Array.getElem?_setIfInBounds_ne h]
theorem set_self {c : Array Value} {i : Nat} (u : Value) (h : i < c.size) : (c.setIfInBounds i u)[i]? = some u := by
 rw [Array.getElem?_setIfInBounds_self_of_lt h]
theorem made_first (N : Net) (w0 : World) (x : Nat) (hT : N.T x) (w : World) (D A : Nat -> Prop) (r : Nat) (hr : N.rk x < r) (hI : Inv N w0 w D A r) (hD : ¬ D x)
 (hf : Calls Tryz.prog 31 #[.pointer (some ⟨x, 0, none⟩)] (w.setCell ⟨x, 9, none⟩ (.int .i32 1)) fun e w2 => e = .returned (.tuple #[]) /\ ∃ D' : Nat -> Prop, Filled N w0 (w.setCell ⟨x, 9, none⟩ (.int .i32 1)) w2 D D' A x) :
 Calls Tryz.prog 21 #[.pointer (some ⟨x, 0, none⟩)] w fun e w' => e = .returned (.pointer (some ⟨x, 0, none⟩)) /\
  ∃ D' : Nat -> Prop, (∀ k, D k -> D' k) /\ D' x /\ (∀ k, D' k -> D k \/ N.T k /\ (k = x \/ N.rk k < N.rk x)) /\ Inv N w0 w' D' A r /\ Fx (fun k => N.T k /\ (k = x \/ N.rk k < N.rk x)) w w' := by
 obtain ⟨cs, h1, h2, h9, h10, _, h6⟩ := hI x hT hr; have h8 := (h6 hD).1; have hs14 := h2.1
 have hq : ∀ w2, (∃ D' : Nat -> Prop, Filled N w0 (w.setCell ⟨x, 9, none⟩ (.int .i32 1)) w2 D D' A x) -> ∃ c2, w2.heap[x]? = some (.cells c2 84 (0, 0)) /\ c2.size = 14 /\ (∀ k, k < 11 -> c2[k]? = (cs.setIfInBounds 9 (.int .i32 1))[k]?) := by
  rintro w2 ⟨D', _, _, _, _, cx, c2, e1, e2, e3, e4, _⟩; rw [put_blk h1] at e1; injection e1 with e1; injection e1 with e1; subst e1; exact ⟨c2, e2, e3, e4⟩
 have HD := hide (On.do_first x 8 (.pointer (some ⟨x, 0, none⟩)) w (fun w2 => ∃ D' : Nat -> Prop, Filled N w0 (w.setCell ⟨x, 9, none⟩ (.int .i32 1)) w2 D D' A x)
  ((cell_box h1 8).trans h8) ((cell_box h1 9).trans h9) (Ow.fzl_blk h1 8) (Ow.fzl_blk h1 9) hf (fun w2 h => by
    obtain ⟨c2, e2, e3, e4⟩ := hq w2 h
    exact ⟨(cell_box e2 8).trans ((e4 8 (by decide)).trans ((set_at _ (by decide)).trans h8)), Ow.fzl_blk e2 8, (cell_box e2 9).trans ((e4 9 (by decide)).trans (set_self _ (by omega))), Ow.fzl_blk e2 9⟩))
 have HEnd : Hid (∀ w2, (∃ D' : Nat -> Prop, Filled N w0 (w.setCell ⟨x, 9, none⟩ (.int .i32 1)) w2 D D' A x) -> ∃ D' : Nat -> Prop, (∀ k, D k -> D' k) /\ D' x /\ (∀ k, D' k -> D k \/ N.T k /\ (k = x \/ N.rk k < N.rk x)) /\
  Inv N w0 ((w2.drew.setCell ⟨x, 8, none⟩ (.int .u32 1)).setCell ⟨x, 9, none⟩ (.int .i32 0)) D' A r /\ Fx (fun k => N.T k /\ (k = x \/ N.rk k < N.rk x)) w ((w2.drew.setCell ⟨x, 8, none⟩ (.int .u32 1)).setCell ⟨x, 9, none⟩ (.int .i32 0))) := hide (by
  rintro w2 ⟨D', d1, d2, d3, d4, cx, c2, e1, e2, e3, e4, e5⟩; rw [put_blk h1] at e1; injection e1 with e1; injection e1 with e1; subst e1; have e2d : w2.drew.heap[x]? = some (.cells c2 84 (0, 0)) := e2; have e6 := put_blk (k := 9) (put_blk (k := 8) e2d (.int .u32 1)) (.int .i32 0)
  have f2 : Fx (fun k => k = x) w2 ((w2.drew.setCell ⟨x, 8, none⟩ (.int .u32 1)).setCell ⟨x, 9, none⟩ (.int .i32 0)) :=
   ((Fx.below (S := fun k => k = x) (Below.drew (Below.refl _ _))).trans (Fx.set (S := fun k => k = x) (b := x) rfl _)).trans (Fx.set (S := fun k => k = x) (b := x) rfl _)
  have fa : Fx (fun k => N.T k /\ (k = x \/ N.rk k < N.rk x)) w ((w2.drew.setCell ⟨x, 8, none⟩ (.int .u32 1)).setCell ⟨x, 9, none⟩ (.int .i32 0)) :=
   ((Fx.set (S := fun k => N.T k /\ (k = x \/ N.rk k < N.rk x)) (k := 9) ⟨hT, .inl rfl⟩ _).trans d4).trans (f2.mono fun k _ h => ⟨by rw [show k = x from h]; exact hT, .inl h⟩)
  have hcc : ∀ k, k ≠ 8 -> k ≠ 9 -> ((c2.setIfInBounds 8 (.int .u32 1)).setIfInBounds 9 (.int .i32 0))[k]? = c2[k]? := fun k k8 k9 => (set_at _ (Ne.symm k9)).trans (set_at _ (Ne.symm k8)); refine ⟨fun k => D' k \/ k = x, fun k h => .inl (d1 k h), .inr rfl, fun k h => ?_, fun b hb hbr => ?_, fa⟩
  · rcases h with h | h
    · exact (d2 k h).imp id fun h => ⟨h.1, .inr h.2⟩
    · exact .inr ⟨h ▸ hT, .inl h⟩
  · by_cases hbx : b = x
    · subst hbx
      refine ⟨_, e6, (Self.cells (h2.on fa fun k _ h => .inl h.1) (by simp [e3]) fun k hk => (hcc k (by omega) (by omega)).trans ((e4 k (by omega)).trans (set_at _ (by omega)))), set_self _ (by simp [e3]),
       (hcc 10 (by decide) (by decide)).trans ((e4 10 (by decide)).trans ((set_at _ (by decide)).trans h10)), fun _ => ⟨(set_at _ (by decide)).trans (set_self _ (by omega)), (Done.cells e5 fun k hk => hcc k (by omega) (by omega)).on f2 fun k _ h => .inl (h ▸ hT)⟩, fun h => absurd (.inr rfl) h⟩
    · by_cases hbl : N.rk b < N.rk x
      · exact (d3 b hb hbl).on f2 (fun k _ h => ⟨h ▸ Ne.symm hbx, .inl (h ▸ hT)⟩) ⟨fun h => h.resolve_right hbx, .inl⟩
      · refine (hI b hb hbr).on fa (fun k _ h => ⟨?_, .inl h.1⟩) ⟨fun h => ?_, fun h => .inl (d1 b h)⟩
        · rintro rfl
          rcases h.2 with h | h
          · exact hbx h
          · exact hbl h
        · rcases d2 b (h.resolve_right hbx) with h | h
          · exact h
          · exact absurd h.2 hbl)
 clear hI h1 h2 h9 h10 h6 h8 hs14 hq hf; go_enter Tryz.func21, Tryz.ntmps21; go_wp2_with fail; refine HD.out.mono ?_; rintro e w1 ⟨rfl, w2, hR, hw1⟩; have HF := hide (HEnd.out w2 hR); rw [<- hw1] at HF; clear HD HEnd hR hw1; go_wp2_with fail; go_ret; exact ⟨rfl, HF.out⟩
theorem Inv.step {N : Net} {w0 w w' : World} {D A A' S : Nat -> Prop} {r : Nat} (h : Inv N w0 w D A r) (hf : Fx S w w') (hs : ∀ k, k < w.heap.size -> S k -> (N.T k -> r <= N.rk k) /\ (N.T k \/ A k)) (ha : ∀ k, k < w.heap.size -> A' k -> A k) : Inv N w0 w' D A' r := fun b hb hr => by
 have h1 : Ent N w0 w D (fun k => A k \/ A' k) b := (h b hb hr).more fun k hk h => h.elim id (ha k hk)
 have h2 : Ent N w0 w' D (fun k => A k \/ A' k) b := h1.on hf (fun k hk hS => ⟨fun e => by
  have := (hs k hk hS).1 (e ▸ hb); rw [e] at this
  omega, (hs k hk hS).2.imp id .inl⟩) Iff.rfl
 exact h2.more fun k _ h => .inr h
theorem Ow.OwnX.stb {α : Type} {P : α -> List Value -> Prop} {S : Nat -> Prop} {w : World} {base e sz : Nat} {v : Value} {l : List α} (h : Ow.OwnX w base e sz P v l) (hs : Ow.Shp P sz) (hS : ∀ k, S k -> k < base) : Stb S w sz P v l := by
 obtain ⟨nw, hfl, hown⟩ := h; have hr : RowX w sz P v l := Ow.OwnX.row ⟨nw, hfl, hown⟩ hs fun _ _ h => h; obtain ⟨a, c, rfl, hc, hr⟩ := hr; refine ⟨a, c, rfl, hc, ?_⟩
 rcases hr with rfl | ⟨b, o, rfl, hlt, hr⟩
 · exact .inl rfl
 · refine .inr ⟨b, o, rfl, hlt, fun hb => ?_, hr⟩
   rcases hown.2 with ⟨h, _⟩ | ⟨g, cap, cur, e1, hg, _⟩
   · cases h
   · injection e1 with e1
     injection e1 with e1; injection e1 with e1; subst e1; have := hS b hb; omega
def Priv (vs vm va : Value) (k : Nat) : Prop := vs.ownBlock = some k \/ vm.ownBlock = some k \/ va.ownBlock = some k
structure Part (N : Net) (w0 w wr : World) (D A : Nat -> Prop) (x : Nat) (cs c : Array Value) (vs vm va : Value) (sl : List Pp.Slt) (ml : List (Pp.Bs × Pp.XMth)) (al : List Nat) : Prop where
 blk : wr.heap[x]? = some (.cells c 84 (0, 0))
 size : c.size = 14
 same : ∀ k, k < 11 -> c[k]? = cs[k]?
 c11 : c[11]? = some vs
 c12 : c[12]? = some vm
 c13 : c[13]? = some va
 slots : Ow.OwnX wr w.heap.size 66 4 SltX vs sl
 mths : Ow.OwnX wr w.heap.size 55 10 (PMt w0) vm ml
 above : Ow.OwnX wr w.heap.size 51 1 PtrX va al
 fx : Fx (fun k => N.T k /\ (k = x \/ N.rk k < N.rk x)) w wr
 inv : Inv N w0 wr D (fun k => A k \/ Priv vs vm va k) (N.rk x)
section
variable {N : Net} {w0 w wr wq : World} {D D' A : Nat -> Prop} {x y : Nat} {cs c : Array Value} {vs vm va : Value} {sl : List Pp.Slt} {ml : List (Pp.Bs × Pp.XMth)} {al : List Nat}
theorem own_lt {α : Type} {P : α -> List Value -> Prop} {w : World} {base e sz k : Nat} {v : Value} {l : List α} (h : Ow.OwnX w base e sz P v l) (hk : v.ownBlock = some k) : k < w.heap.size /\ ∃ c, w.heap[k]? = some (.cells c e (0, 0)) := by
 obtain ⟨nw, _, hown⟩ := h; obtain ⟨cc, hcc⟩ := Ow.own_at hown _ hk; exact ⟨Ow.lt_of_blk hcc, cc, hcc⟩
theorem Part.priv (h : Part N w0 w wr D A x cs c vs vm va sl ml al) (hA : ∀ k, A k -> k < w.heap.size /\ ¬ N.T k) (hT : ∀ k, N.T k -> k < w.heap.size) : ∀ k, (A k \/ Priv vs vm va k) -> k < wr.heap.size /\ ¬ N.T k := by
 have base : ∀ {α : Type} {P : α -> List Value -> Prop} {e sz k : Nat} {v : Value} {l : List α}, Ow.OwnX wr w.heap.size e sz P v l -> v.ownBlock = some k -> k < wr.heap.size /\ ¬ N.T k := by
  intro α P e sz k v l ho hk; refine ⟨(own_lt ho hk).1, fun ht => ?_⟩; have := hT k ht; obtain ⟨nw, _, hown⟩ := ho
  rcases hown.2 with ⟨rfl, _⟩ | ⟨g, cap, cur, rfl, hg, _⟩
  · cases hk
  · injection hk with hk
    have hk : g = k := hk; omega
 rintro k (hk | hk | hk | hk)
 · exact ⟨Nat.lt_of_lt_of_le (hA k hk).1 h.fx.size, (hA k hk).2⟩
 · exact base h.slots hk
 · exact base h.mths hk
 · exact base h.above hk
theorem Part.made (h : Part N w0 w wr D A x cs c vs vm va sl ml al) (hy : N.rk y < N.rk x) (hTy : N.T y) (hf : Fx (fun k => N.T k /\ (k = y \/ N.rk k < N.rk y)) wr wq) (hI : Inv N w0 wq D' (fun k => A k \/ Priv vs vm va k) (N.rk x)) :
 Part N w0 w wq D' A x cs c vs vm va sl ml al := by
 have hlow : ∀ k, (N.T k /\ (k = y \/ N.rk k < N.rk y)) -> N.T k /\ N.rk k < N.rk x := fun k hk => ⟨hk.1, by
  rcases hk.2 with h | h
  · rw [h]; exact hy
  · omega⟩
 have hno : ∀ (e : TypeId), e ≠ 84 -> ∀ (k : Nat) (cc : Array Value), wr.heap[k]? = some (.cells cc e (0, 0)) -> ¬ (N.T k /\ (k = y \/ N.rk k < N.rk y)) := fun e he k cc hk hS => by
  obtain ⟨h1, h2⟩ := hlow k hS; obtain ⟨c3, h3, _⟩ := h.inv k h1 h2; rw [hk] at h3; injection h3 with h3; injection h3 with _ h3; exact he h3
 exact { blk := (hf.blk x (Ow.lt_of_blk h.blk) fun hS => by have := (hlow x hS).2; omega).trans h.blk, size := h.size, same := h.same, c11 := h.c11, c12 := h.c12, c13 := h.c13,
         slots := h.slots.fx hf (hno _ (by decide)), mths := h.mths.fx hf (hno _ (by decide)), above := h.above.fx hf (hno _ (by decide)),
         fx := h.fx.trans (hf.mono fun k _ hS => ⟨hS.1, .inr (hlow k hS).2⟩), inv := hI }
def Came (w : World) (v v' : Value) : Prop := ∀ k, k < w.heap.size -> v'.ownBlock = some k -> v.ownBlock = some k
theorem Moved.came {w : World} {v v' : Value} (h : Moved w v v') : Came w v v' := fun k hk hv => by
 rcases h with h | ⟨q, h1, h2⟩
 · exact h.symm.trans hv
 · rw [h2] at hv
   injection hv with hv; omega
theorem Part.next {S : Nat -> Prop} {c' : Array Value} {vs' vm' va' : Value} {sl' : List Pp.Slt} {ml' : List (Pp.Bs × Pp.XMth)} {al' : List Nat} (h : Part N w0 w wr D A x cs c vs vm va sl ml al) (hTx : N.T x) (hA : ∀ k, A k -> k < w.heap.size /\ ¬ N.T k) (hT : ∀ k, N.T k -> k < w.heap.size)
 (hf : Fx S wr wq) (hS : ∀ k, k < wr.heap.size -> S k -> k = x \/ Priv vs vm va k)
 (hb : wq.heap[x]? = some (.cells c' 84 (0, 0))) (h14 : c'.size = 14) (hsm : ∀ k, k < 11 -> c'[k]? = c[k]?) (h11 : c'[11]? = some vs') (h12 : c'[12]? = some vm') (h13 : c'[13]? = some va')
 (o1 : Ow.OwnX wq w.heap.size 66 4 SltX vs' sl') (o2 : Ow.OwnX wq w.heap.size 55 10 (PMt w0) vm' ml') (o3 : Ow.OwnX wq w.heap.size 51 1 PtrX va' al')
 (m1 : Came wr vs vs') (m2 : Moved wr vm vm') (m3 : Moved wr va va') : Part N w0 w wq D A x cs c' vs' vm' va' sl' ml' al' := by
 have hp := h.priv hA hT
 have mv : ∀ {v v' : Value} {k : Nat}, Moved wr v v' -> k < wr.heap.size -> v'.ownBlock = some k -> v.ownBlock = some k := by
  intro v v' k hm hk hv
  rcases hm with h | ⟨q, h1, h2⟩
  · exact h.symm.trans hv
  · rw [h2] at hv
    injection hv with hv; omega
 exact { blk := hb, size := h14, same := fun k hk => (hsm k hk).trans (h.same k hk), c11 := h11, c12 := h12, c13 := h13, slots := o1, mths := o2, above := o3,
         fx := h.fx.then hf (fun k hk hSk => by
          rcases hS k (Nat.lt_of_lt_of_le hk h.fx.size) hSk with e | e
          · exact ⟨e ▸ hTx, .inl e⟩
          · have h1 : ∀ {α : Type} {P : α -> List Value -> Prop} {e sz : Nat} {v : Value} {l : List α}, Ow.OwnX wr w.heap.size e sz P v l -> v.ownBlock = some k -> False := by
             intro α P e sz v l ho hk2; obtain ⟨nw, _, hown⟩ := ho
             rcases hown.2 with ⟨rfl, _⟩ | ⟨g, cap, cur, rfl, hg, _⟩
             · cases hk2
             · injection hk2 with hk2
               have hk2 : g = k := hk2; omega
            rcases e with e | e | e
            · exact (h1 h.slots e).elim
            · exact (h1 h.mths e).elim
            · exact (h1 h.above e).elim)
         inv := h.inv.step hf (fun k hk hSk => by
          rcases hS k hk hSk with e | e
          · exact ⟨fun _ => by rw [e]; exact Nat.le_refl _, .inl (e ▸ hTx)⟩
          · exact ⟨fun ht => absurd ht (hp k (.inr e)).2, .inr (.inr e)⟩) (fun k hk ha => by
          rcases ha with ha | ha | ha | ha
          · exact .inl ha
          · exact .inr (.inl (m1 k hk ha))
          · exact .inr (.inr (.inl (mv m2 hk ha)))
          · exact .inr (.inr (.inr (mv m3 hk ha)))) }
theorem Part.filled (hG : N.Good) (h : Part N w0 w wr D' A x cs c vs vm va (N.sl x) (N.mt x) (N.ab x)) (hw : w.heap[x]? = some (.cells cs 84 (0, 0))) (hA : ∀ k, A k -> k < w.heap.size /\ ¬ N.T k) (hT : ∀ k, N.T k -> k < w.heap.size)
 (hd : ∀ k, D k -> D' k) (hd2 : ∀ k, D' k -> D k \/ N.T k /\ N.rk k < N.rk x) : Filled N w0 w wr D D' A x := by
 have hS : ∀ k, (N.T k \/ A k) -> k < w.heap.size := fun k hk => hk.elim (hT k) fun hk => (hA k hk).1; exact ⟨hd, hd2, fun b hb hr => (h.inv b hb hr).more fun k _ hk => .inl hk, h.fx, cs, c, hw, h.blk, h.size, h.same, vs, vm, va, h.c11, h.c12, h.c13, h.slots.stb shp_slt hS, h.mths.stb (shp_pmt w0) hS, h.above.stb shp_ptr hS⟩
end
theorem mem_looks {g : Nat -> List Nat} {z : Nat} : ∀ {l : List Nat} {a : List Nat}, z ∈ l.foldl (fun a i => lookL a (g i)) a -> z ∈ a \/ ∃ i ∈ l, z ∈ g i
 | [], _, h => .inl h
 | i :: l, a, h => by
   rw [List.foldl_cons] at h
   rcases mem_looks h with h | ⟨j, h1, h2⟩
   · rcases mem_lookL _ _ h with h | h
     · exact .inl h
     · exact .inr ⟨i, by simp, h⟩
   · exact .inr ⟨j, List.mem_cons_of_mem _ h1, h2⟩
namespace Net
variable {N : Net}
theorem ab0_snoc (b i : Nat) (l : List Nat) : N.ab0 b (l ++ [i]) = lookL (N.ab0 b l) (N.ab i) := by
 unfold Net.ab0; rw [List.foldl_append]
 rfl
theorem ab0_nil (b : Nat) : N.ab0 b [] = if (N.cl b).iface then [b] else [] := rfl
theorem Good.mem_ab (h : N.Good) : ∀ n b, N.T b -> N.rk b < n -> (∀ l : List Nat, (∀ i ∈ l, i ∈ N.ifs b) -> ∀ z ∈ N.ab0 b l, N.T z /\ (z = b \/ N.rk z < N.rk b)) /\ ∀ z ∈ N.ab b, N.T z /\ (z = b \/ N.rk z < N.rk b)
 | n + 1, b, hb, hn => by
   have h0 : ∀ l : List Nat, (∀ i ∈ l, i ∈ N.ifs b) -> ∀ z ∈ N.ab0 b l, N.T z /\ (z = b \/ N.rk z < N.rk b) := by
    intro l hl z hz
    rcases mem_looks hz with hz | ⟨i, h1, h2⟩
    · split at hz
      · simp at hz
        subst hz; exact ⟨hb, .inl rfl⟩
      · cases hz
    · obtain ⟨p1, p2⟩ := h.ifs b i hb (hl i h1)
      obtain ⟨q1, q2⟩ := (Good.mem_ab h n i p1 (by omega)).2 z h2
      refine ⟨q1, .inr ?_⟩
      rcases q2 with rfl | q2 <;> omega
   refine ⟨h0, fun z hz => ?_⟩; rw [h.ab b hb] at hz; cases hs : N.sup b with
   | none =>
     rw [hs] at hz; exact h0 _ (fun _ h => h) z hz
   | some s =>
     rw [hs] at hz
     rcases mem_lookL _ _ hz with hz | hz
     · exact h0 _ (fun _ h => h) z hz
     · obtain ⟨p1, p2⟩ := h.sup b s hb hs
       obtain ⟨q1, q2⟩ := (Good.mem_ab h n s p1 (by omega)).2 z hz
       refine ⟨q1, .inr ?_⟩
       rcases q2 with rfl | q2 <;> omega
end Net
theorem Part.live {N : Net} {w0 w wr : World} {D A : Nat -> Prop} {x : Nat} {cs c : Array Value} {vs vm va : Value} {sl : List Pp.Slt} {ml : List (Pp.Bs × Pp.XMth)} {al : List Nat} (h : Part N w0 w wr D A x cs c vs vm va sl ml al) (l : List Nat) (hl : ∀ z ∈ l, N.T z /\ (z = x \/ N.rk z < N.rk x)) : Live wr l := fun z hz => by
 obtain ⟨h1, h2⟩ := hl z hz
 rcases h2 with rfl | h2
 · exact ⟨c, h.blk⟩
 · obtain ⟨c2, h3, _⟩ := h.inv z h1 h2
   exact ⟨c2, h3⟩
theorem made_all (N : Net) (w0 : World) (hfill : ∀ x, N.T x -> (∀ y, N.T y -> N.rk y < N.rk x -> Made N w0 y) -> ∀ (w : World) (D A : Nat -> Prop) (r : Nat), N.rk x < r -> Inv N w0 w D A r -> ¬ D x -> (∀ k, A k -> k < w.heap.size /\ ¬ N.T k) -> Below w0.heap.size w0 w -> (∀ k, N.T k -> k < w.heap.size) ->
 Calls Tryz.prog 31 #[.pointer (some ⟨x, 0, none⟩)] (w.setCell ⟨x, 9, none⟩ (.int .i32 1)) fun e w2 => e = .returned (.tuple #[]) /\ ∃ D' : Nat -> Prop, Filled N w0 (w.setCell ⟨x, 9, none⟩ (.int .i32 1)) w2 D D' A x) :
 ∀ n x, N.T x -> N.rk x < n -> Made N w0 x
 | n + 1, x, hT, hn => fun w D A r hr hI hA hB hTk => by
   by_cases hD : D x
   · refine (made_done N w0 x hT w D A r hr hI hD).mono ?_
     rintro e w' ⟨rfl, rfl⟩; exact ⟨rfl, D, fun _ h => h, hD, fun _ h => .inl h, hI, Fx.refl _ _⟩
   · exact made_first N w0 x hT w D A r hr hI hD (hfill x hT (fun y hTy hy => made_all N w0 hfill n y hTy (by omega)) w D A r hr hI hD hA hB hTk)
end Go.Proofs.YtjlappamkfjlkabGreatDoor

/- What the laws of this seat lean on: 2 texts. -/
import Derived.Test.YtbbbnciejmdpfabGreatDoorPkAf
import Derived.Lib.AppendZerosOnto
import Derived.Lib.SliceRun
set_option maxRecDepth 100000
set_option maxHeartbeats 64000000
set_option linter.unusedVariables false
set_option linter.unusedSimpArgs false
namespace Go.Proofs.YtbbbnciejmdpfabGreatDoor
open Go.RowKit
theorem Fx.then {S T : Nat -> Prop} {a b c : World} (h : Fx S a b) (k : Fx T b c) (hs : ∀ x, x < a.heap.size -> T x -> S x) : Fx S a c :=
 ⟨h.bel.trans k.bel, fun i hi hn => (k.blk i (Nat.lt_of_lt_of_le hi h.size) fun hx => hn (hs i hi hx)).trans (h.blk i hi hn)⟩
theorem put_blk {w : World} {b k : Nat} {c : Array Value} {t : TypeId} (h : w.heap[b]? = some (.cells c t (0, 0))) (u : Value) : (w.setCell ⟨b, k, none⟩ u).heap[b]? = some (.cells (c.setIfInBounds k u) t (0, 0)) := by
 have hlt := Ow.lt_of_blk h; have h' : w.heap[b] = .cells c t (0, 0) := by simpa [Array.getElem?_eq_getElem hlt] using h
 show (w.heap.modify b _)[b]? = _; rw [Array.getElem?_eq_getElem (by simpa using hlt), Array.getElem_modify_self, h']
 rfl
theorem Ow.fzl_blk {w : World} {b : Nat} {c : Array Value} {t : TypeId} (h : w.heap[b]? = some (.cells c t (0, 0))) (o : Nat) : w.frozen? ⟨b, o, none⟩ = false := by
 unfold World.frozen?; rw [h]; simp
theorem Live.more {S : Nat -> Prop} {w w' : World} {l : List Nat} (h : Live w l) (hf : Fx S w w') (hs : ∀ x ∈ l, S x -> ∃ c, w'.heap[x]? = some (.cells c 140 (0, 0))) : Live w' l := fun x hx => by
 obtain ⟨c, hc⟩ := h x hx; by_cases hS : S x
 · exact hs x hx hS
 · exact ⟨c, (hf.blk x (Ow.lt_of_blk hc) hS).trans hc⟩
theorem mem_lookL {x : Nat} : ∀ (more acc : List Nat), x ∈ lookL acc more -> x ∈ acc \/ x ∈ more := by
 intro more
 induction more with
 | nil => intro acc h; exact .inl h
 | cons b r ih =>
   intro acc h; have h2 : lookL acc (b :: r) = lookL (if b ∈ acc then acc else acc ++ [b]) r := rfl
   rw [h2] at h
   rcases ih _ h with h | h
   · split at h
     · exact .inl h
     · rcases List.mem_append.1 h with h | h
       · exact .inl h
       · simp at h; subst h; exact .inr (by simp)
   · exact .inr (List.mem_cons_of_mem _ h)
def upC (cs : Array Value) (v : Value) : Array Value := cs.setIfInBounds 13 v
theorem upC_up (cs : Array Value) (u v : Value) : (upC cs u).setIfInBounds 13 v = upC cs v := by unfold upC; simp
theorem upC_at {cs : Array Value} (h : cs.size = 14) (v : Value) : (upC cs v)[13]? = some v := by unfold upC; simp [h]
theorem upC_self {cs : Array Value} {v : Value} (h : cs[13]? = some v) : upC cs v = cs := by
 unfold upC; apply Array.ext_getElem?; intro i; rw [Array.getElem?_setIfInBounds]
 split
 · next e => subst e; split
             · exact h.symm
             · next h2 => rw [Array.getElem?_eq_none (by omega)] at h; cases h
 · rfl
theorem lookAlso_any (S : Nat -> Prop) (l acc : List Nat) (b base : Nat) (cs : Array Value) (va v : Value) (w : World)
 (hb : w.heap[b]? = some (.cells cs 140 (0, 0))) (h14 : cs.size = 14) (h13 : cs[13]? = some va)
 (ho : Ow.OwnX w base 125 1 PtrX va acc) (hbase : base <= w.heap.size) (hSb : S b) (hSo : ∀ k, va.ownBlock = some k -> S k)
 (hr : Stb S w 1 PtrX v l) (hn : acc.length + l.length <= 1000) (hl : Live w (acc ++ l)) (hne : ∀ x ∈ acc ++ l, S x -> x = b) :
 Calls Tryz.prog 136 #[.pointer (some ⟨b, 0, none⟩), v] w fun e w' => e = .returned (.tuple #[]) /\ ∃ va', w'.heap[b]? = some (.cells (upC cs va') 140 (0, 0)) /\ Ow.OwnX w' base 125 1 PtrX va' (lookL acc l) /\ Fx S w w' /\
  (va'.ownBlock = va.ownBlock \/ ∃ q, w.heap.size <= q /\ va'.ownBlock = some q) := by
 have HR := hide hr; have HL := hide hl; have HNe := hide hne; have HSo := hide hSo; have HSb := hide hSb; have H14 := hide h14; obtain ⟨a, c, rfl, _⟩ := hr.row.len; obtain ⟨n, hn'⟩ : ∃ q, q = l.length := ⟨_, rfl⟩; have HN := hide hn'; rw [<- hn'] at HR ⊢; have HNm := hide hn; have hb0 : Hid (w.heap[b]? = some (.cells (upC cs va) 140 (0, 0))) := hide (by rw [upC_self h13]; exact hb)
 have hbl := Ow.lt_of_blk hb; have HO := hide ho; clear hr hl hne hn' hb h13 ho hSo hSb h14 hn; have hn1 : n <= 1000 := by have h1 := HNm.out; have h2 := HN.out; omega
 obtain ⟨j0, hj, hj0, hj1, hj2⟩ := Ow.info_of' Ow.i_tabp; go_enter Tryz.func136, Tryz.ntmps136; go_wp2_with fail
 go_loopw [8] (fun i wr => ∃ (k : Nat) (vk : Value), k <= n /\ i = .int .i64 k /\ Hid (wr.heap[b]? = some (.cells (upC cs vk) 140 (0, 0))) /\ Hid (Ow.OwnX wr base 125 1 PtrX vk (lookL acc (l.take k))) /\ Hid (Fx S w wr) /\ Hid (vk.ownBlock = va.ownBlock \/ ∃ q, w.heap.size <= q /\ vk.ownBlock = some q)) (fun i _ => n - (intOf i).toNat)
 case atStart => exact ⟨0, va, Nat.zero_le _, rfl, hb0, HO, hide (Fx.refl _ _), hide (.inl rfl)⟩
 case round =>
  obtain ⟨k, vk, hk, rfl, HBk, HOk, HF, HQ⟩ := hrel; obtain ⟨ka, kc, ek⟩ := HOk.out.shape; obtain ⟨ln, hln⟩ : ∃ q, q = (lookL acc (l.take k)).length := ⟨_, rfl⟩; rw [<- hln] at ek; subst ek; have HLn := hide hln; clear hln; have HLk : Hid ((lookL acc (l.take k)).length <= 1000) := hide (by have h1 := lookL_len acc (l.take k); have h2 := HNm.out; rw [List.length_take] at h1; omega)
  have HLv : Hid (Live wr (acc ++ l)) := hide (HL.out.more HF.out fun x hx hs => by rw [HNe.out x hx hs]; exact ⟨_, HBk.out⟩)
  by_cases hlt : k < n
  · obtain ⟨x, hx⟩ : ∃ x, l[k]? = some x := ⟨l[k]'(by rw [<- HN.out]; exact hlt), List.getElem?_eq_getElem _⟩
    have HRr := (HR.out.on HF.out fun _ _ h => h).row; rw [HN.out] at HRr; obtain ⟨g, o, eg, ys, wf, hc⟩ := Ow.row_at' HRr hx; subst eg; have hwf : ys = [.pointer (some ⟨x, 0, none⟩)] := wf; subst hwf; have r0 := hc wr (Below.refl _ _) 0 _ rfl; rw [Nat.add_zero, Nat.mul_one] at r0; have HX := hide hx; have c13 : wr.cell? ⟨b, 13, none⟩ = some (.slice ka ln kc) := (cell_box HBk.out 13).trans (upC_at H14.out _); have hlt' : (k : Int) < (n : Int) := by omega
    have HT := hide (hasT_any (lookL acc (l.take k)) x (.slice ka ln kc) wr (HOk.out.row shp_ptr fun _ _ h => h) HLk.out (by
     intro y hy
     rcases List.mem_cons.1 hy with rfl | hy
     · exact HLv.out _ (List.mem_append.2 (.inr (List.mem_of_getElem? HX.out)))
     · rcases mem_lookL _ _ hy with hy | hy
       · exact HLv.out _ (List.mem_append.2 (.inl hy))
       · exact HLv.out _ (List.mem_append.2 (.inr (List.mem_of_mem_take hy)))))
    clear hc wf hx HRr; by_cases hin : x ∈ lookL acc (l.take k)
    · rw [decide_eq_true hin] at HT
      have HTk : Hid (lookL acc (l.take (k + 1)) = lookL acc (l.take k)) := hide (by rw [List.take_add_one, HX.out]; exact (lookL_snoc _ _ _).trans (if_pos hin))
      clear hin; go_wp2_with fail; refine HT.out.mono ?_; rintro e w1 ⟨rfl, hw1⟩; have hw1' := hw1.symm; subst hw1'; clear HT hw1; go_wp2_with fail
      go_roundw
      case rel => exact ⟨k + 1, _, by omega, by go_num, HBk, by rw [HTk.out]; exact HOk, HF, HQ⟩
      case measure => simp [intOf]; omega
    · rw [decide_eq_false hin] at HT
      have HTk : Hid (lookL acc (l.take (k + 1)) = lookL acc (l.take k) ++ [x]) := hide (by rw [List.take_add_one, HX.out]; exact (lookL_snoc _ _ _).trans (if_neg hin))
      have hA : Below wr.heap.size wr (wr.alloc (.cells #[.pointer (some ⟨x, 0, none⟩)] 125)) := (Below.refl _ _).alloc (Nat.le_refl _) _; have HR2 : Hid (RowX (wr.alloc (.cells #[.pointer (some ⟨x, 0, none⟩)] 125)) 1 PtrX (.slice (some ⟨wr.heap.size, 0, none⟩) 1 1) [x]) := hide (Ow.row_one' (P := PtrX) (x := x) (ys := [.pointer (some ⟨x, 0, none⟩)]) rfl); have HO2 := hide (HOk.out.on hA fun _ _ h => h); have hbr := Ow.lt_of_blk HBk.out; have HB2 : Hid ((wr.alloc (.cells #[.pointer (some ⟨x, 0, none⟩)] 125)).heap[b]? = some (.cells (upC cs (.slice ka ln kc)) 140 (0, 0))) := hide ((hA.block b hbr).trans HBk.out); have HS2 : Hid (base <= (wr.alloc (.cells #[.pointer (some ⟨x, 0, none⟩)] 125)).heap.size) := hide (by have := HF.out.size; have := hA.size; omega)
      have HF2 : Hid (Fx S w (wr.alloc (.cells #[.pointer (some ⟨x, 0, none⟩)] 125))) := hide (HF.out.trans (Fx.below hA)); have hll : (lookL acc (l.take k)).length <= 1000 := HLk.out; clear hin hA hbr; go_wp2_with fail; refine HT.out.mono ?_; rintro e w1 ⟨rfl, hw1⟩; have hw1' := hw1.symm; subst hw1'; clear HT hw1
      go_wp2_with (at_builtin; refine Ow.wpList_app2s rfl (.tmp 23) (.tmp 25) 103 rfl Tryz.underlying103 hj hj0 hj1 hj2 (by decide) shp_ptr (by first | rfl | simp [Act.eval, Act.put]) HO2.out (by first | rfl | simp [Act.eval, Act.put]) HR2.out (by simp; omega) (by decide) HS2.out ?_)
      intro v5 w5 ho5 hg5 hq5
      have HQ5 : Hid (v5.ownBlock = va.ownBlock \/ ∃ q, w.heap.size <= q /\ v5.ownBlock = some q) := hide (by
       rcases hq5 with h | h
       · rcases HQ.out with h2 | ⟨q, h2, h3⟩
         · exact .inl (h.trans h2)
         · exact .inr ⟨q, h2, h.trans h3⟩
       · refine .inr ⟨_, ?_, h⟩
         have h2 := HF.out.size
         omega)
      have HF5 : Hid (Fx S w w5) := hide (HF2.out.then (Fx.grown hg5) (by
       intro y hy h
       rcases HQ.out with h2 | ⟨q, h2, h3⟩
       · exact HSo.out y (h2.symm.trans h)
       · rw [h3] at h; injection h with h; omega))
      have HB5 : Hid (w5.heap[b]? = some (.cells (upC cs (.slice ka ln kc)) 140 (0, 0))) := hide ((hg5.block b (Ow.lt_of_blk HB2.out) (fun h => by
       obtain ⟨nw, _, hown⟩ := HO2.out; obtain ⟨cc, hcc⟩ := Ow.own_at hown _ h.symm; rw [HB2.out] at hcc
       cases hcc)).trans HB2.out)
      have HO5 := hide ho5; clear ho5 hg5 hq5 HO2 HR2 HB2 HS2 HF2; obtain ⟨xa, xc, rfl⟩ := HO5.out.shape; have hlen : (lookL acc (l.take k) ++ [x]).length = (lookL acc (l.take k)).length + 1 := by simp
      rw [hlen] at HQ5 HO5; clear hlen; have c5 : w5.cell? ⟨b, 13, none⟩ = some (.slice ka ln kc) := (cell_box HB5.out 13).trans (upC_at H14.out _); have z5 : w5.frozen? ⟨b, 13, none⟩ = false := Ow.fzl_blk HB5.out 13; go_wp2_with fail
      go_roundw
      case rel =>
       refine ⟨k + 1, .slice xa ((lookL acc (l.take k)).length + 1) xc, by omega, by go_num, hide (by rw [<- upC_up]; exact put_blk HB5.out _), ?_, hide (HF5.out.trans (Fx.set HSb.out _)), HQ5⟩
       rw [HTk.out]
       exact hide (HO5.out.keep (fun _ _ h => h) fun i c hi => (Below.heap_setCell w5 ⟨b, 13, none⟩ _ i (fun e => by
        have e : i = b := e; rw [e, HB5.out] at hi
        cases hi)).trans hi)
      case measure => simp [intOf]; omega
  · have hnl : ¬ ((k : Int) < (n : Int)) := by omega
    have HTl : Hid (lookL acc (l.take k) = lookL acc l) := hide (by rw [List.take_of_length_le (by rw [<- HN.out]; omega)])
    go_wp2_with fail; exact bodyPost_end (v := .tuple #[]) (by simp [results, Tryz.results136, go_sem]) rfl ⟨rfl, _, HBk.out, by rw [<- HTl.out]; exact HOk.out, HF.out, HQ.out⟩
theorem i_slotZ : (Tryz.prog.info? 80).map (fun i => (i.zero.map (fun z => z.cells.size), i.size, i.bytes)) = some (some 4, 4, 56) := by kernel_rfl
theorem sgrow_any (n : Nat) (w : World) (hn : n <= 1000000) :
 Calls Tryz.prog 152 #[.slice none 0 0, .int .i64 n] w fun e w' => ∃ v, e = .returned v /\ Ow.OwnX w' w.heap.size 80 4 SltX v [] /\ Below w.heap.size w w' := by
 obtain ⟨i0, hi0, hz0, hs0, hb0⟩ := Ow.info_of' i_slotZ
 obtain ⟨z, hz, hzc⟩ : ∃ z, i0.zero = some z /\ z.cells.size = 4 := by
  cases h : i0.zero with
  | none => rw [h] at hz0; cases hz0
  | some z => rw [h] at hz0; exact ⟨z, rfl, by simpa using hz0⟩
 by_cases h0 : n = 0
 · subst h0
   go_enter Tryz.func152, Tryz.ntmps152; go_wp2; go_ret; exact ⟨_, rfl, Ow.OwnX.nil _ _ _ _ _, Below.refl _ _⟩
 · have hrz : ∀ ty, (Builtin.append_ #[77, 3] ty #[.slice none 0 0, .int .i64 n]).run Tryz.prog w =
    .ok (.slice (some ⟨w.heap.size, 0, none⟩) n (grownCap w n 0 80)) (w.drew.alloc (.cells (Builtin.zeroCells z.cells n ++ Builtin.zeroCells z.cells (grownCap w n 0 80 - n)) 80)) := fun ty => by
    have h := Go.Lib.run_append_grow_zeros (P := Tryz.prog) w 77 3 ty 80 i0 z .i64 .i64 Tryz.underlying77 Tryz.underlying3 hi0 hz none 0 0 [] (run_firstCells_none w.drew i0.size 0 0 0) n (by omega) (by omega) (by omega) (by omega) (by rw [hb0]; omega) (by rw [hb0]; exact growslice_fits (by omega) (by omega))
    simpa using h
   obtain ⟨zc, hzq⟩ : ∃ q, q = z.cells := ⟨_, rfl⟩; rw [<- hzq] at hrz hzc; clear hzq; have hGn : n <= grownCap w n 0 80 := grownCap_ge w _ _ _; obtain ⟨G, hG⟩ : ∃ G, G = grownCap w n 0 80 := ⟨_, rfl⟩; rw [<- hG] at hrz hGn
   have hGl : G <= maxLen := by
    have := grownCap_le_maxLen w n 0 80 (by unfold maxLen; omega)
    rwa [<- hG] at this
   have hG63 : G <= 9223372036854775807 := by unfold maxLen at hGl; omega
   have h4 : (n : Int) > 0 := by omega
   clear hG; go_enter Tryz.func152, Tryz.ntmps152
   go_wp2_with (at_builtin; refine Go.Lib.wpList_append_run _ rfl _ _ _ _ rfl _ _ rfl rfl _ _ (hrz _) ?_)
   go_ret; refine ⟨_, rfl, ⟨[], rfl, rfl, .inr ⟨_, G, _, rfl, Nat.le_refl _, heap_alloc_new w _, Nat.zero_le _, hGl, ?_, rfl⟩⟩, ((Below.refl _ _).alloc (Nat.le_refl _) _).drew⟩; rw [Array.size_append, size_zeroCells, size_zeroCells, hzc, <- Nat.add_mul]
   congr 1
   omega
theorem concat_any (g o c : Nat) (v1 v2 : Value) (l1 l2 : List Pp.Slt) (w : World) (h1 : RowX w 4 SltX v1 l1) (h2 : RowX w 4 SltX v2 l2) (c1 : w.cell? ⟨g, o, none⟩ = some v1) (c2 : w.cell? ⟨g, o + 1, none⟩ = some v2) (hg : g < w.heap.size) (hn : l1.length + l2.length <= 1000000) :
 Calls Tryz.prog 147 #[.slice (some ⟨g, o, none⟩) 2 c] w fun e w' => ∃ v, e = .returned v /\ Ow.OwnX w' w.heap.size 80 4 SltX v (l1 ++ l2) /\ Below w.heap.size w w' := by
 have HR1 := hide h1; have HR2 := hide h2; obtain ⟨a1, k1, rfl, _⟩ := h1.len; obtain ⟨a2, k2, rfl, _⟩ := h2.len; clear h1 h2; obtain ⟨n1, hn1⟩ : ∃ q, q = l1.length := ⟨_, rfl⟩; obtain ⟨n2, hn2⟩ : ∃ q, q = l2.length := ⟨_, rfl⟩; have HN1 := hide hn1; have HN2 := hide hn2; rw [<- hn1] at HR1 c1 hn; rw [<- hn2] at HR2 c2 hn; clear hn1 hn2; have HC1 : Hid (∀ wx, Below w.heap.size w wx -> wx.cell? ⟨g, o, none⟩ = some (.slice a1 n1 k1)) := hide fun wx hb => (hb.cell hg).trans c1; have HC2 : Hid (∀ wx, Below w.heap.size w wx -> wx.cell? ⟨g, o + 1, none⟩ = some (.slice a2 n2 k2)) := hide fun wx hb => (hb.cell hg).trans c2; obtain ⟨j0, hj, hj0, hj1, hj2⟩ := Ow.info_of' Ow.i_slot; have hG := hide (sgrow_any (n1 + n2) w hn); go_enter Tryz.func147, Tryz.ntmps147; go_wp2_with fail
 go_loop [3, 11] (fun s i => (i = .int .i64 0 /\ s = .int .i64 0) \/ (i = .int .i64 1 /\ s = .int .i64 n1) \/ (i = .int .i64 2 /\ s = .int .i64 ((n1 + n2 : Nat) : Int))) (fun _ i => 2 - (intOf i).toNat)
 case atStart => exact .inl ⟨rfl, rfl⟩
 case round =>
  rcases hrel with ⟨rfl, rfl⟩ | ⟨rfl, rfl⟩ | ⟨rfl, rfl⟩
  · have b1 := HC1.out w (Below.refl _ _)
    go_wp2_with fail
    go_round
    case rel => exact .inr (.inl ⟨by go_num, by go_num⟩)
    case measure => simp [intOf]
  · have b1 := HC2.out w (Below.refl _ _)
    go_wp2_with fail
    go_round
    case rel => exact .inr (.inr ⟨by go_num, by go_num⟩)
    case measure => simp [intOf]
  · go_wp2_with fail
    refine hG.out.mono ?_; rintro e w1 ⟨v0, rfl, ho0, hb0⟩; have HO0 := hide ho0; have HB0 := hide hb0; clear hG ho0 hb0; obtain ⟨xa, xc, rfl⟩ := HO0.out.shape; go_wp2_with fail
    go_loopw [6, 27] (fun v i wr => Hid (Below w.heap.size w wr) /\ ((i = .int .i64 0 /\ Hid (Ow.OwnX wr w.heap.size 80 4 SltX v [])) \/ (i = .int .i64 1 /\ Hid (Ow.OwnX wr w.heap.size 80 4 SltX v l1)) \/ (i = .int .i64 2 /\ Hid (Ow.OwnX wr w.heap.size 80 4 SltX v (l1 ++ l2))))) (fun _ i _ => 2 - (intOf i).toNat)
    case atStart => exact ⟨HB0, .inl ⟨rfl, HO0⟩⟩
    case round =>
     obtain ⟨HBr, hrel⟩ := hrel
     rcases hrel with ⟨rfl, HO⟩ | ⟨rfl, HO⟩ | ⟨rfl, HO⟩
     · have b1 := HC1.out wr HBr.out
       have HRo : Hid (RowX wr 4 SltX _ _) := hide (HR1.out.on HBr.out fun _ _ h => h); obtain ⟨va, vc, rfl⟩ := HO.out.shape; have hsz := HBr.out.size; have hbd : ([] : List Pp.Slt).length + l1.length <= 1000000 := by have e1 := HN1.out; simp; omega
       go_wp2_with (at_builtin; refine Ow.wpList_app rfl (.tmp 31) (.tmp 32) 77 rfl Tryz.underlying77 hj hj0 hj1 hj2 (by decide) shp_slt (by first | rfl | simp [Act.eval, Act.put]) HO.out (by first | rfl | simp [Act.eval, Act.put]) HRo.out hbd (by decide) hsz ?_)
       intro v5 w5 ho5 hg5; have HB5 := hide (HBr.out.trans (Ow.bel_grown HO.out hsz hg5)); have HO5 := hide ho5; clear ho5 hg5 HO HRo HBr b1; obtain ⟨ya, yc, rfl⟩ := HO5.out.shape; go_wp2_with fail
       go_roundw
       case rel => exact ⟨HB5, .inr (.inl ⟨by go_num, HO5⟩)⟩
       case measure => simp [intOf]
     · have b1 := HC2.out wr HBr.out
       have HRo : Hid (RowX wr 4 SltX _ _) := hide (HR2.out.on HBr.out fun _ _ h => h); obtain ⟨va, vc, rfl⟩ := HO.out.shape; have hsz := HBr.out.size; have hbd : l1.length + l2.length <= 1000000 := by have e1 := HN1.out; have e2 := HN2.out; omega
       go_wp2_with (at_builtin; refine Ow.wpList_app rfl (.tmp 31) (.tmp 32) 77 rfl Tryz.underlying77 hj hj0 hj1 hj2 (by decide) shp_slt (by first | rfl | simp [Act.eval, Act.put]) HO.out (by first | rfl | simp [Act.eval, Act.put]) HRo.out hbd (by decide) hsz ?_)
       intro v5 w5 ho5 hg5; have HB5 := hide (HBr.out.trans (Ow.bel_grown HO.out hsz hg5)); have HO5 := hide ho5; clear ho5 hg5 HO HRo HBr b1; obtain ⟨ya, yc, rfl⟩ := HO5.out.shape; go_wp2_with fail
       go_roundw
       case rel => exact ⟨HB5, .inr (.inr ⟨by go_num, HO5⟩)⟩
       case measure => simp [intOf]
     · obtain ⟨va, vc, rfl⟩ := HO.out.shape
       go_wp2_with fail; go_ret; exact ⟨_, rfl, HO.out, HBr.out⟩
end Go.Proofs.YtbbbnciejmdpfabGreatDoor

/- What the laws of this seat lean on: 7 texts. -/
import Derived.Test.YtjlappamkfjlkaaGreatDoorPkAu
import Derived.Test.YtjlappamkfjlkaaGreatDoorPkAo
import Derived.Test.YtjlappamkfjlkaaGreatDoorPkAt
import Derived.Test.YtjlappamkfjlkaaGreatDoorPkAk
import Derived.Test.YtjlappamkfjlkaaGreatDoorPkAb
set_option maxRecDepth 100000
set_option maxHeartbeats 64000000
set_option linter.unusedVariables false
set_option linter.unusedSimpArgs false
namespace Go.Proofs.YtjlappamkfjlkaaGreatDoor
open Go.RowKit
namespace Ly
open Pp Hr
section
variable {cs : List XCls} {up : List (List Nat)} (hz : layE cs = 0) (hg : growL (allL cs) (allL cs) = some up)
include hz hg
theorem mt_eq {k : Nat} (hk : k < (allL cs).length) : (pnet (allL cs) up).mt k = (match supP (allL cs) k with | none => Net.ownM (clP (allL cs) k) | some s => Net.ownM (clP (allL cs) k) ++ (pnet (allL cs) up).mt s) := by
 have he := (lay_parts hz hg).1; exact (pnet_good he hg).mt k hk
theorem meth_own {k : Nat} (hk : k < (allL cs).length) {nm : Bs} {m : XMth} (h : (clP (allL cs) k).methods.find? (fun m => m.name == nm) = some m) : methP (pnet (allL cs) up) k nm = some ((clP (allL cs) k).name, m) := by
 have hf : (Net.ownM (clP (allL cs) k)).find? (fun o => o.2.name == nm) = some ((clP (allL cs) k).name, m) := by
  unfold Net.ownM; rw [List.find?_map]; rw [show ((fun o : Bs × XMth => o.2.name == nm) ∘ fun m => ((clP (allL cs) k).name, m)) = fun m : XMth => m.name == nm from rfl, h]
  rfl
 unfold methP; rw [mt_eq hz hg hk]; cases supP (allL cs) k with
 | none => exact hf
 | some s => simp only [List.find?_append, hf, Option.some_or]
theorem meth_super {k : Nat} (hk : k < (allL cs).length) {nm : Bs} (h : (clP (allL cs) k).methods.find? (fun m => m.name == nm) = none) : methP (pnet (allL cs) up) k nm = (match supP (allL cs) k with | none => none | some s => methP (pnet (allL cs) up) s nm) := by
 have hf : (Net.ownM (clP (allL cs) k)).find? (fun o => o.2.name == nm) = none := by
  unfold Net.ownM; rw [List.find?_map]; rw [show ((fun o : Bs × XMth => o.2.name == nm) ∘ fun m => ((clP (allL cs) k).name, m)) = fun m : XMth => m.name == nm from rfl, h]
  rfl
 unfold methP; rw [mt_eq hz hg hk]; cases supP (allL cs) k with
 | none => exact hf
 | some s => simp only [List.find?_append, hf, Option.none_or]
theorem meth_face {k i : Nat} (hk : k < (allL cs).length) (hi : i < (allL cs).length) (hc : (clP (allL cs) k).iface = false) (hab : i ∈ (pnet (allL cs) up).ab k) {m : XMth} (hm : m ∈ (clP (allL cs) i).methods) : ∃ o, methP (pnet (allL cs) up) k m.name = some o /\ o.2.stat = false /\ alikeB o.2 m = true := by
 have he := (lay_parts hz hg).1; have hl := hz; unfold layE at hl; rw [if_pos he, hg] at hl; simp only at hl; unfold checkF at hl
 split at hl
 · split at hl
   · have h1 := first_zero hl k (List.mem_range.2 hk)
     unfold ifcF at h1; rw [if_neg (by show ¬ (clP (allL cs) k).iface = true; rw [hc]; decide)] at h1
     have h2 := first_zero h1 i (List.mem_range.2 hi); unfold faceF at h2; rw [if_pos hab] at h2; have h3 := first_zero h2 m hm; unfold lackF at h3; cases ho : methP (pnet (allL cs) up) k m.name with
     | none => rw [ho] at h3; cases h3
     | some o =>
       rw [ho] at h3; simp only at h3
       split at h3
       · cases h3
       · rename_i hn
         simp only [Bool.or_eq_true, not_or] at hn; exact ⟨o, rfl, by simpa using hn.1, by simpa using hn.2⟩
   · rename_i h2; exact absurd hl h2
 · rename_i h1; exact absurd hl h1
end
end Ly
namespace Ly
open Pp Hr
theorem lay_err {cs : List XCls} (hz : layE cs = 0) : errL cs = 0 := by
 unfold layE at hz
 split at hz
 · assumption
 · exact hz
theorem lay_grow {cs : List XCls} (hz : layE cs = 0) : ∃ up, growL (allL cs) (allL cs) = some up := by
 obtain ⟨_, _, up, hg, _⟩ := err_zero (lay_err hz); exact ⟨up, hg⟩
theorem own_at {cs : List XCls} {j : Nat} {c : XCls} (h : cs[j]? = some c) : (allL cs)[8 + j]? = some c := by
 unfold allL; rw [List.getElem?_append_right (by show 8 <= 8 + j; omega), show 8 + j - base.length = j by show 8 + j - 8 = j; omega]
 exact h
theorem place_at {cs : List XCls} (he : errL cs = 0) {k : Nat} {c : XCls} (h : (allL cs)[k]? = some c) : placeL (allL cs) c.name = some k := (err_zero he).2.1 k c h
theorem classQ_at {cs : List XCls} (he : errL cs = 0) {k : Nat} {c : XCls} (h : (allL cs)[k]? = some c) : classQ cs c.name = if c.iface = true then none else some k := by
 unfold classQ; rw [place_at he h]; simp only [clP_at h]
theorem methQ_face {cs : List XCls} (hz : layE cs = 0) {k : Nat} {c : XCls} (h : (allL cs)[k]? = some c) (hi : c.iface = true) (nm : Bs) : methQ cs c.name nm = none := by
 unfold methQ; rw [if_pos hz, classQ_at (lay_err hz) h, if_pos hi]
theorem methQ_at {cs : List XCls} (hz : layE cs = 0) {up : List (List Nat)} (hg : growL (allL cs) (allL cs) = some up) {k : Nat} {c : XCls} (h : (allL cs)[k]? = some c) (hi : c.iface = false) (nm : Bs) : methQ cs c.name nm = methP (pnet (allL cs) up) k nm := by
 unfold methQ; rw [if_pos hz, classQ_at (lay_err hz) h, if_neg (by rw [hi]; decide), hg]
theorem at_lt {cs : List XCls} {k : Nat} {c : XCls} (h : (allL cs)[k]? = some c) : k < (allL cs).length := (List.getElem?_eq_some_iff.1 h).1
theorem methQ_own {cs : List XCls} (hz : layE cs = 0) {k : Nat} {c : XCls} (h : (allL cs)[k]? = some c) (hi : c.iface = false) {nm : Bs} {m : XMth} (hm : c.methods.find? (fun m => m.name == nm) = some m) : methQ cs c.name nm = some (c.name, m) := by
 obtain ⟨up, hg⟩ := lay_grow hz; rw [methQ_at hz hg h hi, meth_own hz hg (at_lt h) (by rw [clP_at h]; exact hm), clP_at h]
theorem super_place {cs : List XCls} (hz : layE cs = 0) {up : List (List Nat)} (hg : growL (allL cs) (allL cs) = some up) {k : Nat} {c : XCls} (h : (allL cs)[k]? = some c) {s : Bs} (hs : superL c = some s) : ∃ q d, (allL cs)[q]? = some d /\ d.name = s /\ d.iface = false /\ Step up k q /\ (supP (allL cs) k = some q \/ supP (allL cs) k = none /\ q = 0) := by
 obtain ⟨q, d, h1, h2, h3, h4, h5, h6⟩ := super_step hg h hs; refine ⟨q, d, h2, h3, h4, h5, ?_⟩; have hk := at_lt h; have hs' : superL (clP (allL cs) k) = some s := by rw [clP_at h]; exact hs
 cases hp : supP (allL cs) k with
 | none =>
   have h7 := sup_top (lay_err hz) hg hk hp hs'; rw [h1] at h7; injection h7 with h7; exact .inr ⟨rfl, h7⟩
 | some q' =>
   obtain ⟨h8, _⟩ := sup_step (lay_err hz) hg hk hp; rw [hs'] at h8; injection h8 with h8; subst h8; refine .inl ?_; unfold supP at hp; rw [h1] at hp; rw [hp]
theorem all_pos (cs : List XCls) : 0 < (allL cs).length := by rw [all_len]; show 0 < 8 + _; omega
theorem methQ_super {cs : List XCls} (hz : layE cs = 0) {k : Nat} {c : XCls} (h : (allL cs)[k]? = some c) (hi : c.iface = false) {nm : Bs} (hm : c.methods.find? (fun m => m.name == nm) = none) {s : Bs} (hs : superL c = some s) : methQ cs c.name nm = methQ cs s nm := by
 obtain ⟨up, hg⟩ := lay_grow hz; obtain ⟨q, d, h2, rfl, h4, h5, h6⟩ := super_place hz hg h hs; rw [methQ_at hz hg h hi, meth_super hz hg (at_lt h) (by rw [clP_at h]; exact hm), methQ_at hz hg h2 h4]
 rcases h6 with h6 | ⟨h6, rfl⟩
 · rw [h6]
 · rw [h6]
   unfold methP; rw [mt_top (lay_err hz) hg (all_pos cs)]
   rfl
theorem slotsE_at {cs : List XCls} (hz : layE cs = 0) {k : Nat} {c : XCls} (h : (allL cs)[k]? = some c) : slotsE cs c.name = if c.iface = true then 5 else 0 := by
 unfold slotsE; rw [if_pos hz, classQ_at (lay_err hz) h]; cases c.iface <;> rfl
theorem slots_face {cs : List XCls} (hz : layE cs = 0) {k : Nat} {c : XCls} (h : (allL cs)[k]? = some c) (hi : c.iface = true) : slotsQ cs c.name = [] := by
 unfold slotsQ; rw [if_pos hz, classQ_at (lay_err hz) h, if_pos hi]
theorem slots_at {cs : List XCls} (hz : layE cs = 0) {up : List (List Nat)} (hg : growL (allL cs) (allL cs) = some up) {k : Nat} {c : XCls} (h : (allL cs)[k]? = some c) (hi : c.iface = false) : slotsQ cs c.name = (pnet (allL cs) up).sl k := by
 unfold slotsQ; rw [if_pos hz, classQ_at (lay_err hz) h, if_neg (by rw [hi]; decide), hg]
theorem slots_super {cs : List XCls} (hz : layE cs = 0) {k : Nat} {c : XCls} (h : (allL cs)[k]? = some c) (hi : c.iface = false) {s : Bs} (hs : superL c = some s) : slotsQ cs c.name = slotsQ cs s ++ ownL c false c.fields := by
 obtain ⟨up, hg⟩ := lay_grow hz; obtain ⟨q, d, h2, rfl, h4, h5, h6⟩ := super_place hz hg h hs; rw [slots_at hz hg h hi, slots_at hz hg h2 h4]
 rcases h6 with h6 | ⟨h6, rfl⟩
 · rw [sl_super hz hg (at_lt h) h6, clP_at h]
 · rw [sl_bare hz hg (at_lt h) h6, sl_top (lay_err hz) hg (all_pos cs), clP_at h]
   rfl
theorem slots_none {cs : List XCls} (hz : layE cs = 0) {k : Nat} {c : XCls} (h : (allL cs)[k]? = some c) (hi : c.iface = false) (hs : superL c = none) : slotsQ cs c.name = [] := by
 obtain ⟨up, hg⟩ := lay_grow hz
 have hn : c.name = objN := by
  unfold superL at hs
  split at hs
  · rename_i h'
    rcases h' with h' | h'
    · rw [hi] at h'; cases h'
    · exact h'
  · split at hs <;> cases hs
 have h0 : k = 0 := by
  have := place_at (lay_err hz) h; rw [hn] at this; have h1 : placeL (allL cs) objN = some 0 := rfl; rw [h1] at this; injection this with this; exact this.symm
 subst h0; rw [slots_at hz hg h hi, sl_top (lay_err hz) hg (all_pos cs)]
theorem slots_owner {cs : List XCls} (hz : layE cs = 0) {k : Nat} {c : XCls} (h : (allL cs)[k]? = some c) (hi : c.iface = false) : ∀ t ∈ slotsQ cs c.name, underQ cs c.name t.owner := by
 obtain ⟨up, hg⟩ := lay_grow hz; intro t ht; rw [slots_at hz hg h hi] at ht; have := sl_owner hz hg _ k (Nat.lt_succ_self _) (at_lt h) t ht
 rwa [clP_at h] at this
theorem slots_once {cs : List XCls} (hz : layE cs = 0) {k : Nat} {c : XCls} (h : (allL cs)[k]? = some c) (hi : c.iface = false) : ((slotsQ cs c.name).map (·.name)).Nodup := by
 obtain ⟨up, hg⟩ := lay_grow hz; rw [slots_at hz hg h hi]; exact sl_once hz hg _ k (Nat.lt_succ_self _) (at_lt h)
theorem own_owner {c : XCls} {st : Bool} {fs : List Fld} : ∀ t ∈ ownL c st fs, t.owner = c.name := by
 intro t ht; unfold ownL at ht; obtain ⟨f, _, rfl⟩ := List.mem_map.1 ht
 rfl
theorem super_owner {cs : List XCls} (hz : layE cs = 0) {j : Nat} {c : XCls} (h0 : cs[j]? = some c) {s : Bs} (hs : superL c = some s) : ∀ t ∈ slotsQ cs s, t.owner ≠ c.name := by
 have h := own_at h0; obtain ⟨up, hg⟩ := lay_grow hz; have he := lay_err hz; obtain ⟨q, d, h2, rfl, h4, h5, h6⟩ := super_place hz hg h hs; intro t ht e; have hu := slots_owner hz h2 h4 t ht; rw [e] at hu; obtain ⟨up', i, k, _, hg', hi, hk, hf⟩ := hu; rw [hg] at hg'; injection hg' with hg'; subst hg'; rw [place_at he h2] at hi; rw [place_at he h] at hk; injection hi with hi; injection hk with hk; subst hi hk; have hr := not_ring he hg
 rcases hf with rfl | hf | hf
 · exact hr ⟨_, .one h5⟩
 · omega
 · exact hr ⟨_, Far.trans (.one h5) hf⟩
theorem sup_or {cs : List XCls} (he : errL cs = 0) {j : Nat} {c : XCls} (h : cs[j]? = some c) (hi : c.iface = false) : ∃ s, superL c = some s := by
 have hn : c.name ≠ objN := by
  intro e; have := place_at he (own_at h); rw [e] at this; have h1 : placeL (allL cs) objN = some 0 := rfl; rw [h1] at this; injection this with this; omega
 unfold superL
 rw [if_neg (by rintro (h' | h'); · rw [hi] at h'; cases h'
                · exact hn h')]
 split
 · exact ⟨_, rfl⟩
 · exact ⟨_, rfl⟩
theorem slots_count {cs : List XCls} (hz : layE cs = 0) {j : Nat} {c : XCls} (h : cs[j]? = some c) (hi : c.iface = false) : ((slotsQ cs c.name).filter fun t => t.owner == c.name).length = (ownL c false c.fields).length := by
 obtain ⟨s, hs⟩ := sup_or (lay_err hz) h hi; rw [slots_super hz (own_at h) hi hs, List.filter_append, List.length_append]
 have h1 : (slotsQ cs s).filter (fun t => t.owner == c.name) = [] := by
  rw [List.filter_eq_nil_iff]; intro t ht
  simpa using super_owner hz h hs t ht
 have h2 : (ownL c false c.fields).filter (fun t => t.owner == c.name) = ownL c false c.fields := by
  rw [List.filter_eq_self]; intro t ht
  simpa using own_owner t ht
 rw [h1, h2]; simp
end Ly
namespace Ly
open Pp Hr
theorem class_SB : classQ someP [66] = some 10 := by
 unfold classQ; rw [place_SB]; simp only [face_SB]
 rfl
theorem slotsE_SB : slotsE someP [66] = 0 := by
 unfold slotsE; rw [if_pos lay_S, class_SB]
 rfl
theorem slotsQ_SB : slotsQ someP [66] = [⟨[65], [120], sT⟩, ⟨[66], [121], sT⟩] := by
 unfold slotsQ; rw [if_pos lay_S, class_SB, grow_S]; exact slots_SB
theorem staticsQ_S : staticsQ someP = [⟨[65], [115], sT⟩] := by
 unfold staticsQ; rw [if_pos lay_S]; exact statics_S
theorem methQ_SB : methQ someP [66] [102] = some ([65], sM) := by
 unfold methQ; rw [if_pos lay_S, class_SB, grow_S]; exact meth_SB
theorem callQ_SI : callQ someP [73] [102] = some sI := by
 unfold callQ; rw [if_pos lay_S, place_SI, grow_S]; simp only; rw [sig_some meth_SI]
 rfl
theorem light_E : Light [emptyC] := ⟨by decide, by
 intro c hc; simp only [List.mem_cons, List.not_mem_nil, or_false] at hc
 rcases hc with rfl
 simp [LtC, LtF, LtM, LtS, LtT, LtI, emptyC]⟩
end Ly
theorem empty_prog (w : World) : ProgX (w.alloc (.cells #[.string ⟨#[]⟩, .bool false, .string ⟨#[]⟩, .slice none 0 0, .slice none 0 0, .slice none 0 0] 59)) (.slice (some ⟨w.heap.size, 0, none⟩) 1 1) [Ly.emptyC] :=
 ⟨row_blk (cs := [.string ⟨#[]⟩, .bool false, .string ⟨#[]⟩, .slice none 0 0, .slice none 0 0, .slice none 0 0]) (heap_alloc_new w _) (Hr.shp_clsx _) ⟨_, [], (List.append_nil _).symm, ⟨_, _, _, rfl, row_no, row_no, row_no, by decide, by decide, by decide, by decide, by decide⟩, rfl⟩ rfl, by decide⟩
theorem lwakes_any (w : World) (ht : TabS w) :
 Calls Tryz.prog 19 #[] w fun e w' => e = .returned (.bool true) /\ Below w.heap.size w w' := by
 have HT := hide (fun wx (hb : Below w.heap.size w wx) => ht.below hb); clear ht; go_enter Tryz.func19, Tryz.ntmps19; go_wp2_with fail; refine (some_any w).mono ?_; rintro e w1 ⟨v, rfl, hp1, hb1⟩; obtain ⟨pa, pc, rfl, _⟩ := hp1.1.len; have hn3 : Ly.someP.length = 3 := rfl; rw [hn3] at hp1 ⊢; have hb2 := (Below.refl w1.heap.size w1).alloc (Nat.le_refl _) (.cells #[.slice pa 3 pc] 24); have hx2 := heap_alloc_new w1 (.cells #[.slice pa 3 pc] 24); have HP2 := hide (hp1.on hb2); have HB2 := hide (hb1.trans (hb2.mono hb1.size)); go_wp2_with fail; generalize w1.alloc (.cells #[.slice pa 3 pc] 24) = w2 at *
 have HC : Hid (∀ wx, Below w2.heap.size w2 wx -> wx.cell? ⟨w1.heap.size, 0, none⟩ = some (.slice pa 3 pc)) := hide fun wx hb => cell_box ((hb.block _ (Ow.lt_of_blk hx2)).trans hx2) 0; have HTx := hide (fun wx (hb : Below w2.heap.size w2 wx) => HT.out wx (HB2.out.trans (hb.mono HB2.out.size))); clear hp1 hb1 hb2 hx2 hn3 HT; have c2 := HC.out w2 (Below.refl _ _)
 -- Slots
 have hS := Slots_any Ly.someP _ [66] w2 (HTx.out _ (Below.refl _ _)) HP2.out Ly.light_S; rw [Ly.slotsE_SB, Ly.slotsQ_SB] at hS; go_wp2_with fail; refine hS.mono ?_; clear hS; rintro e w3 ⟨vl, rfl, hr3, hb3⟩; obtain ⟨la, lc, rfl, _⟩ := hr3.len; have hn2 : [(⟨[65], [120], Ly.sT⟩ : Pp.Slt), ⟨[66], [121], Ly.sT⟩].length = 2 := rfl; rw [hn2] at hr3 ⊢; obtain ⟨g, o, rfl, ys0, e0, hc0⟩ := Eq.row_at hr3 (k := 0) rfl; obtain ⟨g', o', hgo, ys1, e1, hc1⟩ := Eq.row_at hr3 (k := 1) rfl; cases hgo; obtain rfl : ys0 = _ := e0; obtain rfl : ys1 = _ := e1; have HB3 := hide hb3; have HR0 : Hid (∀ wx, Below w3.heap.size w3 wx -> wx.cell? ⟨g, o, none⟩ = some (.string ⟨#[65]⟩) /\ wx.cell? ⟨g, o + 4 + 1, none⟩ = some (.string ⟨#[121]⟩)) := hide fun wx hb => ⟨hc0 wx hb 0 _ rfl, hc1 wx hb 1 _ rfl⟩; have c3 := HC.out w3 hb3; clear hr3 hb3 hc0 hc1 c2 hn2
 -- Statics
 have hS := Statics_any Ly.someP _ w3 (HTx.out _ HB3.out) (HP2.out.on HB3.out) Ly.light_S; rw [Ly.lay_S, Ly.staticsQ_S] at hS; go_wp2_with fail; refine hS.mono ?_; clear hS; rintro e w4 ⟨vs, rfl, hr4, hb4⟩; obtain ⟨sa, sc, rfl, _⟩ := hr4.len; have hn1 : [(⟨[65], [115], Ly.sT⟩ : Pp.Slt)].length = 1 := rfl; rw [hn1] at hr4 ⊢; have HB4 := hide (HB3.out.trans (hb4.mono HB3.out.size)); have H4 := hide hb4; have c4 := HC.out w4 HB4.out; clear hr4 hb4 c3 hn1
 -- Method
 have hM := Method_any Ly.someP _ [66] [102] w4 (HTx.out _ HB4.out) (HP2.out.on HB4.out) Ly.light_S; rw [Ly.methQ_SB] at hM; go_wp2_with fail; refine hM.mono ?_; clear hM; rintro e w5 ⟨⟨ms, _, rfl, h1, _⟩, hb5⟩; obtain ⟨vp, vc, vk, rfl, x1, x2, x3, _⟩ := h1 _ rfl; obtain ⟨va1, vd1, rfl, _⟩ := x1.len; obtain ⟨va2, vd2, rfl, _⟩ := x2.len; obtain ⟨va3, vd3, rfl, _⟩ := x3.len; clear x1 x2 x3 h1; simp only [mthXL, List.toArray, Option.map_some, Option.getD_some, Option.isSome_some, Ly.sM, Ly.sT, List.length_nil, List.length_cons]; have hb5' := (Below.refl w5.heap.size w5).alloc (Nat.le_refl _) (.cells #[.string ⟨#[102]⟩, .bool false, .bool false, .slice va1 0 vd1, .int .i64 2, .string ⟨#[]⟩, .int .i64 1, .slice va2 2 vd2, .slice va3 0 vd3] 39); have hx5 := heap_alloc_new w5 (.cells #[.string ⟨#[102]⟩, .bool false, .bool false, .slice va1 0 vd1, .int .i64 2, .string ⟨#[]⟩, .int .i64 1, .slice va2 2 vd2, .slice va3 0 vd3] 39); have H5 := hide (H4.out.trans (hb5.trans (hb5'.mono hb5.size) |>.mono H4.out.size))
 have HB5 := hide (HB4.out.trans ((hb5.trans (hb5'.mono hb5.size)).mono HB4.out.size)); have c5 := HC.out _ HB5.out; go_wp2_with fail; generalize w5.alloc (.cells #[.string ⟨#[102]⟩, .bool false, .bool false, .slice va1 0 vd1, .int .i64 2, .string ⟨#[]⟩, .int .i64 1, .slice va2 2 vd2, .slice va3 0 vd3] 39) = w6 at *
 have HL5 : Hid (∀ wx, Below w6.heap.size w6 wx -> wx.cell? ⟨w5.heap.size, 7, none⟩ = some (.slice va2 2 vd2)) := hide fun wx hb => cell_box ((hb.block _ (Ow.lt_of_blk hx5)).trans hx5) 7; clear hb5 hb5' hx5 H4 c4
 -- Call
 have hM := Call_any Ly.someP _ [73] [102] w6 (HTx.out _ HB5.out) (HP2.out.on HB5.out) Ly.light_S; rw [Ly.callQ_SI] at hM; refine hM.mono ?_; clear hM; rintro e w7 ⟨⟨ms, _, rfl, h1, _⟩, hb7⟩; obtain ⟨vp, vc, vk, rfl, x1, x2, x3, _⟩ := h1 _ rfl; obtain ⟨ua1, ud1, rfl, _⟩ := x1.len; obtain ⟨ua2, ud2, rfl, _⟩ := x2.len; obtain ⟨ua3, ud3, rfl, _⟩ := x3.len; clear x1 x2 x3 h1; simp only [mthXL, List.toArray, Option.isSome_some, Ly.sI, Ly.sT, List.length_nil]; have hb7' := (Below.refl w7.heap.size w7).alloc (Nat.le_refl _) (.cells #[.string ⟨#[102]⟩, .bool false, .bool true, .slice ua1 0 ud1, .int .i64 2, .string ⟨#[]⟩, .int .i64 0, .slice ua2 0 ud2, .slice ua3 0 ud3] 39); have hx7 := heap_alloc_new w7 (.cells #[.string ⟨#[102]⟩, .bool false, .bool true, .slice ua1 0 ud1, .int .i64 2, .string ⟨#[]⟩, .int .i64 0, .slice ua2 0 ud2, .slice ua3 0 ud3] 39); have H7 := hide (hb7.trans (hb7'.mono hb7.size)); have HB7 := hide (HB5.out.trans (H7.out.mono HB5.out.size)); have HZ7 := hide (H5.out.trans (H7.out.mono H5.out.size)); have c7 := HC.out _ HB7.out; go_wp2_with fail; generalize w7.alloc (.cells #[.string ⟨#[102]⟩, .bool false, .bool true, .slice ua1 0 ud1, .int .i64 2, .string ⟨#[]⟩, .int .i64 0, .slice ua2 0 ud2, .slice ua3 0 ud3] 39) = w8 at *
 have HL7 : Hid (∀ wx, Below w8.heap.size w8 wx -> wx.cell? ⟨w7.heap.size, 2, none⟩ = some (.bool true)) := hide fun wx hb => cell_box ((hb.block _ (Ow.lt_of_blk hx7)).trans hx7) 2; clear hb7 hb7' hx7 c5
 -- Check
 have hK := lCheck_any Ly.someP _ w8 (HTx.out _ HB7.out) (HP2.out.on HB7.out) Ly.light_S; rw [Ly.lay_S] at hK; refine hK.mono ?_; clear hK; rintro e w9 ⟨rfl, hb9⟩; have HB9 := hide (HB7.out.trans (hb9.mono HB7.out.size)); have HZ9 := hide (HZ7.out.trans (hb9.mono HZ7.out.size)); obtain ⟨r0, r1⟩ := HR0.out w9 HZ9.out; have l5 := HL5.out w9 (H7.out.trans (hb9.mono H7.out.size)); have l7 := HL7.out w9 hb9; clear hb9 c7 HL5 HL7 HR0; have hb10 := (Below.refl w9.heap.size w9).alloc (Nat.le_refl _) (.cells #[.string ⟨#[]⟩, .bool false, .string ⟨#[]⟩, .slice none 0 0, .slice none 0 0, .slice none 0 0] 59); have HB10 := hide (HB9.out.trans (hb10.mono HB9.out.size)); have HE := hide (empty_prog w9); clear hb10; go_wp2_with fail; have hK := lCheck_any [Ly.emptyC] _ _ (HTx.out _ HB10.out) HE.out Ly.light_E; rw [Ly.lay_E] at hK; refine hK.mono ?_; clear hK; rintro e w11 ⟨rfl, hb11⟩; have HBz := hide (HB2.out.trans ((HB10.out.trans (hb11.mono HB10.out.size)).mono HB2.out.size)); clear hb11; go_wp2_with fail; go_ret; exact ⟨rfl, HBz.out⟩
theorem mod_at (n : Int) (c : Nat) (hc : 0 < c) (hc2 : c <= 100000) : ∃ m : Nat, m < c /\ wrap64 ((IntKind.u64.wrap n).tmod (c : Int)) = (m : Int) := by
 have h0 : 0 <= IntKind.u64.wrap n := by
  rw [IntKind.wrap_u64]; omega
 generalize IntKind.u64.wrap n = u at h0; have h1 : 0 <= u.tmod (c : Int) := Int.tmod_nonneg _ h0; have h2 : u.tmod (c : Int) < (c : Int) := Int.tmod_lt_of_pos _ (by omega)
 generalize u.tmod (c : Int) = r at h1 h2; refine ⟨r.toNat, by omega, ?_⟩
 unfold wrap64; omega
namespace Ly
open Pp Hr
def noM : XMth := ⟨[], false, false, [], ⟨0, []⟩, 0, [], []⟩
def orM (r : Option XMth) : XMth := r.getD noM
theorem no_light : LtM noM := by simp [LtM, noM]
theorem meth_light {cs : List XCls} (hl : Light cs) {n nm : Bs} {o : Bs × XMth} (h : methQ cs n nm = some o) : LtM o.2 := by
 unfold methQ at h
 split at h
 · rename_i hz
   cases hc : classQ cs n with
   | none => rw [hc] at h; cases h
   | some k =>
     rw [hc] at h; cases hg : growL (allL cs) (allL cs) with
     | none => rw [hg] at h; cases h
     | some up =>
       rw [hg] at h; simp only at h; obtain ⟨q, hq, hm⟩ := mtF_of (pnet_good (lay_err hz) hg) _ k (classQ_lt hc).2.1 o (List.mem_of_find?_eq_some h); exact (light_cls hl (List.mem_of_getElem? (at_of hq))).2.2.2 o.2 hm
 · cases h
theorem or_light {r : Option XMth} (h : ∀ m, r = some m -> LtM m) : LtM (orM r) := by
 cases r with
 | none => exact no_light
 | some m => exact h m rfl
end Ly
theorem eq_yes {α : Type} {x y : α} {e : Ending} (h : Eq.Is x y e) (hxy : x = y) : e = .returned (.bool true) := by
 obtain ⟨b, rfl, hb⟩ := h; rw [hb.2 hxy]
theorem wp_once {P : Program} {c : Code} {a : Act} {w : World} {Q : Exit -> Act -> World -> Prop} (A : Act) (R : World -> Prop) (h : c.wp P (fun e a wx => e = .normal /\ a = A /\ R wx) a w) (g : ∀ wx, R wx -> Q .normal A wx) : c.wp P Q a w :=
 Code.wp_mono (fun _ _ wx ⟨h1, h2, h3⟩ => by subst h1 h2; exact g wx h3) h
theorem zero_mth (w : World) : MthX w Ly.noM zeroM := ⟨_, _, _, rfl, row_no, row_no, row_no, by decide, by decide, by decide, by decide, by decide⟩
theorem FoundL.is {w' : World} {r : Option (Pp.Bs × Pp.XMth)} {e : Ending} (h : FoundL w' r e) : ∃ ms, Mv ms /\ e = .returned (.tuple #[.string ⟨((r.map (·.1)).getD []).toArray⟩, .agg ms.toArray, .bool r.isSome]) /\ MthX w' (Ly.orM (r.map (·.2))) ms := by
 obtain ⟨ms, h1, h2, h3, h4⟩ := h; refine ⟨ms, h1, h2, ?_⟩; cases r with
 | none => rw [h4 rfl]; exact zero_mth _
 | some o => exact h3 o rfl
theorem FoundS.is {w' : World} {r : Option Pp.XMth} {e : Ending} (h : FoundS w' r e) : ∃ ms, Mv ms /\ e = .returned (.tuple #[.agg ms.toArray, .bool r.isSome]) /\ MthX w' (Ly.orM r) ms := by
 obtain ⟨ms, h1, h2, h3, h4⟩ := h; refine ⟨ms, h1, h2, ?_⟩; cases r with
 | none => rw [h4 rfl]; exact zero_mth _
 | some o => exact h3 o rfl
namespace Ly
open Pp Hr
theorem statC_small {c : XCls} (h : LtC c) : (statC c).length <= 14 := Nat.le_trans (ownL_len _ _ _) h.1.1
theorem flat_len : ∀ {l : List XCls}, (∀ c ∈ l, LtC c) -> (l.flatMap statC).length <= l.length * 14
 | [], _ => by simp
 | c :: l, h => by
   have h1 := statC_small (h c (by simp))
   have h2 := flat_len (l := l) fun d hd => h d (List.mem_cons_of_mem _ hd); rw [List.flatMap_cons, List.length_append, List.length_cons]; omega
theorem stat_len {cs : List XCls} (hl : Light cs) (k : Nat) : ((cs.take k).flatMap statC).length <= 196 := by
 have h1 := flat_len (l := cs.take k) fun c hc => hl.2 c (List.mem_of_mem_take hc); have h2 : (cs.take k).length <= 14 := by rw [List.length_take]; have := hl.1; omega
 omega
theorem stat_snoc {cs : List XCls} {k : Nat} {c : XCls} (h : cs[k]? = some c) : (cs.take (k + 1)).flatMap statC = (cs.take k).flatMap statC ++ ownL c true c.fields := by
 rw [List.take_add_one, h, List.flatMap_append]; simp [statC]
theorem stat_end {cs : List XCls} {k : Nat} (h : cs.length <= k) : (cs.take k).flatMap statC = cs.flatMap statC := by rw [List.take_of_length_le h]
theorem base_stat : base.flatMap statC = [] := by rfl
theorem statics_own {cs : List XCls} (hz : layE cs = 0) : staticsQ cs = cs.flatMap statC := by
 unfold staticsQ; rw [if_pos hz]; show (base ++ cs).flatMap statC = _; rw [List.flatMap_append, base_stat, List.nil_append]
theorem own_take0 (c : XCls) (st : Bool) : ownL c st (c.fields.take 0) = [] := rfl
theorem own_step {c : XCls} {st : Bool} {j : Nat} {f : Fld} (h : c.fields[j]? = some f) : ownL c st (c.fields.take (j + 1)) = ownL c st (c.fields.take j) ++ (if f.stat = st then [⟨c.name, f.name, f.ty⟩] else []) := by
 rw [List.take_add_one, h]; exact ownL_snoc c st _ f
theorem own_end' {c : XCls} {st : Bool} {j : Nat} (h : c.fields.length <= j) : ownL c st (c.fields.take j) = ownL c st c.fields := by rw [List.take_of_length_le h]
theorem filt_step {α : Type} {p : α -> Bool} {l : List α} {j : Nat} {t : α} (h : l[j]? = some t) : ((l.take (j + 1)).filter p).length = ((l.take j).filter p).length + (if p t = true then 1 else 0) := by
 rw [List.take_add_one, h, List.filter_append, List.length_append]
 congr 1
 cases hp : p t <;> simp [hp]
theorem filt_end {α : Type} {p : α -> Bool} {l : List α} {j : Nat} (h : l.length <= j) : ((l.take j).filter p).length = (l.filter p).length := by rw [List.take_of_length_le h]
theorem once_at {l : List Slt} (h : (l.map (·.name)).Nodup) {j k : Nat} {t u : Slt} (hj : l[j]? = some t) (hk : l[k]? = some u) (hne : j ≠ k) : t.name ≠ u.name := by
 intro e; have h1 : (l.map (·.name))[j]? = some t.name := by rw [List.getElem?_map, hj]; rfl
 have h2 : (l.map (·.name))[k]? = some u.name := by rw [List.getElem?_map, hk]; rfl
 have l1 := (List.getElem?_eq_some_iff.1 h1).1; rw [e] at h1; exact hne ((List.getElem?_inj l1 h).1 (h1.trans h2.symm))
theorem slots_small {cs : List XCls} (hz : layE cs = 0) {k : Nat} {c : XCls} (h : (allL cs)[k]? = some c) : (slotsQ cs c.name).length <= 100000 := by
 cases hi : c.iface with
 | true => rw [slots_face hz h hi]; exact Nat.zero_le _
 | false =>
   obtain ⟨up, hg⟩ := lay_grow hz; rw [slots_at hz hg h hi]; have := (pnet_small (lay_err hz) hg).sl k (at_lt h); omega
end Ly
theorem Slots_eq (l1 l2 : List Pp.Slt) (v1 v2 : Value) (w : World) (h1 : RowX w 4 SltX v1 l1) (h2 : RowX w 4 SltX v2 l2) (n1 : l1.length <= 100000) (n2 : l2.length <= 100000) :
 Calls Tryz.prog 20 #[v1, v2] w fun e w' => Eq.Is l1 l2 e /\ Below w.heap.size w w' := by
 obtain ⟨a1, c1, rfl, _⟩ := h1.len; obtain ⟨a2, c2, rfl, _⟩ := h2.len; have H1 := hide h1; have H2 := hide h2; obtain ⟨m1, hm1⟩ : ∃ m, m = l1.length := ⟨_, rfl⟩; obtain ⟨m2, hm2⟩ : ∃ m, m = l2.length := ⟨_, rfl⟩; have HM1 := hide hm1; have HM2 := hide hm2; rw [<- hm1] at H1 n1 ⊢; rw [<- hm2] at H2 n2 ⊢; clear h1 h2 hm1 hm2; by_cases hne : m1 = m2
 · subst hne
   go_enter Tryz.func20, Tryz.ntmps20; go_wp2_with fail
   go_loopw [5] (fun i wr => ∃ k : Nat, k <= m1 /\ i = .int .i64 k /\ Below w.heap.size w wr /\ Hid (l1.take k = l2.take k)) (fun i _ => m1 - (intOf i).toNat)
   case atStart => exact ⟨0, Nat.zero_le _, rfl, Below.refl _ _, rfl⟩
   case round =>
    obtain ⟨k, hk, rfl, hbel, HT⟩ := hrel; by_cases hlt : k < m1
    · obtain ⟨x, hx⟩ : ∃ x, l1[k]? = some x := ⟨l1[k]'(by rw [<- HM1.out]; exact hlt), List.getElem?_eq_getElem _⟩
      obtain ⟨y, hy⟩ : ∃ y, l2[k]? = some y := ⟨l2[k]'(by rw [<- HM2.out]; exact hlt), List.getElem?_eq_getElem _⟩
      obtain ⟨g1, o1, rfl, ys1, e1, hc1⟩ := Eq.row_at H1.out hx; obtain ⟨g2, o2, rfl, ys2, e2, hc2⟩ := Eq.row_at H2.out hy; obtain rfl : ys1 = _ := e1; obtain rfl : ys2 = _ := e2; have r0 := hc1 wr hbel 0 _ rfl; have r1 := hc1 wr hbel 1 _ rfl; have r2 := hc1 wr hbel 2 _ rfl; have r3 := hc1 wr hbel 3 _ rfl; have s0 := hc2 wr hbel 0 _ rfl; have s1 := hc2 wr hbel 1 _ rfl; have s2 := hc2 wr hbel 2 _ rfl; have s3 := hc2 wr hbel 3 _ rfl; rw [Nat.add_zero] at r0 s0; have HX := hide hx; have HY := hide hy; clear hc1 hc2 hx hy; have hlt' : (k : Int) < (m1 : Int) := by omega
      obtain ⟨ox, nx, kx, tx⟩ := x; obtain ⟨oy, ny, ky, ty⟩ := y; simp only at r0 r1 r2 r3 s0 s1 s2 s3; by_cases eo : ox = oy
      case neg =>
       have HN := hide (Eq.ne_at HX.out HY.out (fun e => eo (congrArg Pp.Slt.owner e))); have eo' : (ox == oy) = false := by simpa using eo
       go_wp2_with fail
       go_quiet (fail)
       go_wp2_with fail; go_ret; exact ⟨Eq.no HN.out, by first | exact hbel | exact below_drewN hbel _⟩
      subst eo; by_cases en : nx = ny
      case neg =>
       have HN := hide (Eq.ne_at HX.out HY.out (fun e => en (congrArg Pp.Slt.name e))); have en' : (nx == ny) = false := by simpa using en
       generalize (⟨ox.toArray⟩ : ByteArray) = Sox at *
       go_wp2_with fail
       go_quiet (fail)
       go_wp2_with fail; go_ret; exact ⟨Eq.no HN.out, by first | exact hbel | exact below_drewN hbel _⟩
      subst en; by_cases ek : kx = ky
      case neg =>
       have HN := hide (Eq.ne_at HX.out HY.out (fun e => ek (congrArg (fun s : Pp.Slt => s.ty.kind) e))); have ek' : (kx == ky) = false := by simpa using ek
       generalize (⟨ox.toArray⟩ : ByteArray) = Sox at *
       generalize (⟨nx.toArray⟩ : ByteArray) = Snx at *
       go_wp2_with fail
       go_quiet (fail)
       go_wp2_with fail; go_ret; exact ⟨Eq.no HN.out, by first | exact hbel | exact below_drewN hbel _⟩
      subst ek; by_cases et : tx = ty
      case neg =>
       have HN := hide (Eq.ne_at HX.out HY.out (fun e => et (congrArg (fun s : Pp.Slt => s.ty.name) e))); have et' : (tx == ty) = false := by simpa using et
       generalize (⟨ox.toArray⟩ : ByteArray) = Sox at *
       generalize (⟨nx.toArray⟩ : ByteArray) = Snx at *
       go_wp2_with fail
       go_quiet (fail)
       go_wp2_with fail; go_ret; exact ⟨Eq.no HN.out, by first | exact hbel | exact below_drewN hbel _⟩
      subst et; have HS := hide (Eq.take_step HT.out HX.out HY.out); generalize (⟨ox.toArray⟩ : ByteArray) = Sox at *
      generalize (⟨nx.toArray⟩ : ByteArray) = Snx at *
      generalize (⟨tx.toArray⟩ : ByteArray) = Stx at *
      go_wp2_with fail
      go_quiet (fail)
      go_wp2_with fail
      go_roundw
      case rel => exact ⟨k + 1, by omega, by go_num, by first | exact hbel | exact below_drewN hbel _, HS⟩
      case measure => simp [intOf]; omega
    · have HE := hide (Eq.take_end HT.out (by rw [<- HM1.out]; omega) (by rw [<- HM2.out]; omega))
      go_wp2_with fail; go_ret; exact ⟨Eq.yes HE.out, hbel⟩
 · have hne' : ((m1 : Int) != (m2 : Int)) = true := by simp; omega
   have HN : Hid (l1 ≠ l2) := hide (fun e => hne (by rw [HM1.out, HM2.out, e]))
   go_enter Tryz.func20, Tryz.ntmps20; go_wp2_with fail; go_ret; exact ⟨Eq.no HN.out, Below.refl _ _⟩
namespace Ly
open Pp Hr
theorem mtF_name {cs : List XCls} {up : List (List Nat)} (he : errL cs = 0) (hg : growL (allL cs) (allL cs) = some up) : ∀ n k, k < (allL cs).length -> ∀ o ∈ (pnet (allL cs) up).mtF n k, o.1 ≠ [] /\ o.2.params.length <= 4
 | 0, _, _, o, ho => by cases ho
 | n + 1, k, hk, o, ho => by
   unfold Net.mtF at ho
   have h0 : ∀ o ∈ Net.ownM ((pnet (allL cs) up).cl k), o.1 ≠ [] /\ o.2.params.length <= 4 := by
    intro o ho; obtain ⟨m, hm, rfl⟩ := List.mem_map.1 ho; exact ⟨(all_facts (err_zero he).1 (at_of hk)).1, all_pars (err_zero he).1 (at_of hk) m hm⟩
   cases hs : (pnet (allL cs) up).sup k with
   | none => rw [hs] at ho; exact h0 o ho
   | some s =>
     rw [hs] at ho
     rcases List.mem_append.1 ho with ho | ho
     · exact h0 o ho
     · exact mtF_name he hg n s ((pnet_good he hg).sup k s hk hs).1 o ho
theorem methP_name {cs : List XCls} {up : List (List Nat)} (he : errL cs = 0) (hg : growL (allL cs) (allL cs) = some up) {k : Nat} (hk : k < (allL cs).length) {nm : Bs} {o : Bs × XMth} (ho : methP (pnet (allL cs) up) k nm = some o) : o.1 ≠ [] /\ o.2.params.length <= 4 :=
 mtF_name he hg _ k hk o (List.mem_of_find?_eq_some ho)
end Ly
theorem loop_ne (b : ByteArray) : ∀ n i (r : List UInt8), r ≠ [] -> b.size - i = n -> ByteArray.toList.loop b i r ≠ [] := by
 intro n
 induction n with
 | zero => intro i r h e; unfold ByteArray.toList.loop; rw [if_neg (by omega)]; simpa using h
 | succ n ih => intro i r h e; unfold ByteArray.toList.loop; rw [if_pos (by omega)]; exact ih _ _ (by simp) (by omega)
theorem ba_ne {b : ByteArray} (h : b ≠ ⟨#[]⟩) : b.toList.isEmpty = false := by
 have hs : 0 < b.size := by
  rcases Nat.eq_zero_or_pos b.size with h0 | h0
  · exact absurd (by cases b; simpa [ByteArray.size] using h0) h
  · exact h0
 have : b.toList ≠ [] := by
  unfold ByteArray.toList ByteArray.toList.loop; rw [if_pos hs]; exact loop_ne b _ _ _ (by simp) rfl
 simpa using this
theorem inherits_any {cs : List Pp.XCls} {up : List (List Nat)} (he : Hr.errL cs = 0) (hg : Hr.growL (Hr.allL cs) (Hr.allL cs) = some up) (hl : Pp.Light cs) (v : Value) (c : Pp.XCls) (ys : List Value) (q : Nat) (hq : Hr.placeL (Hr.allL cs) (Hr.superS c) = some q) (w : World) (hr : RowX w 6 (ClsX w) v (Hr.allL cs)) (h : ClsX w c ys) (hf : c.fields.length <= 100) (hm : c.methods.length <= 100) (hp : ∀ m ∈ c.methods, m.params.length <= 100) :
 Calls Tryz.prog 37 #[v, .agg ys.toArray] w fun e w' => e = .returned (.int .i64 (Ly.inhG (Ly.pnet (Hr.allL cs) up) q c)) /\ Below w.heap.size w w' := by
 have hql : q < (Hr.allL cs).length := by
  obtain ⟨d, h1, _⟩ := Hr.placeL_lt hq; exact (List.getElem?_eq_some_iff.1 h1).1
 have HSu := hide (fun wx (hb : Below w.heap.size w wx) => RSuper_any c ys wx (h.on hb)); have HSl := hide (fun wx (hb : Below w.heap.size w wx) => slotsOf_any he hg v (Hr.superS c) q hq wx (hr.on hb fun _ _ h => h.on hb)); have HMe := hide (fun wx (hb : Below w.heap.size w wx) nm => rmethod_any he hg hl v (Hr.superS c) nm q hq wx (hr.on hb fun _ _ h => h.on hb)); have HMn := hide (fun nm o (ho : Ly.methP (Ly.pnet (Hr.allL cs) up) q nm = some o) => Ly.methP_name he hg hql ho); have HSs := hide ((Ly.pnet_small he hg).sl q hql); obtain ⟨N, hN⟩ : ∃ N, N = Ly.pnet (Hr.allL cs) up := ⟨_, rfl⟩; rw [<- hN] at HSl HMe HMn HSs ⊢; obtain ⟨ia, ic, fa, fc, ma, mc, rfl, _, x2, x3⟩ := cls_open h; have HRf := hide x2; have HRm := hide x3; have HPm := hide hp; obtain ⟨va, vc, rfl, _⟩ := hr.len; generalize (Hr.allL cs).length = nl at *
 clear x2 x3 h hp hr he hg hl hq hN hql; obtain ⟨r, hr⟩ : ∃ r, r = Ly.inhG N q c := ⟨_, rfl⟩; have H6 : Hid (c.fields.any (Ly.clashF N q) = true -> r = 6) := hide fun h => by rw [hr]; unfold Ly.inhG; rw [if_pos h]
 have H8 : Hid (c.fields.any (Ly.clashF N q) = false -> c.methods.any (Ly.clashM N q) = true -> r = 8) := hide fun h1 h2 => by rw [hr]; unfold Ly.inhG; rw [if_neg (by rw [h1]; decide), if_pos h2]
 have H0 : Hid (c.fields.any (Ly.clashF N q) = false -> c.methods.any (Ly.clashM N q) = false -> r = 0) := hide fun h1 h2 => by rw [hr]; unfold Ly.inhG; rw [if_neg (by rw [h1]; decide), if_neg (by rw [h2]; decide)]
 rw [<- hr]; clear hr; obtain ⟨nf, hnf⟩ : ∃ q, q = c.fields.length := ⟨_, rfl⟩; obtain ⟨nm, hnm⟩ : ∃ q, q = c.methods.length := ⟨_, rfl⟩; have HNf := hide hnf; have HNm := hide hnm; rw [<- hnf] at HRf hf HSu ⊢; rw [<- hnm] at HRm hm HSu ⊢; clear hnf hnm; generalize (⟨c.name.toArray⟩ : ByteArray) = NB at *
 generalize (⟨c.super.toArray⟩ : ByteArray) = SB at *
 generalize c.iface = fi at *
 generalize c.ifaces.length = ni at *
 generalize (⟨(Hr.superS c).toArray⟩ : ByteArray) = SU at *
 have hf1 : (nf : Int) <= 100 := by omega
 have hm1 : (nm : Int) <= 100 := by omega
 have HB0 := hide ((Below.refl w.heap.size w).alloc (Nat.le_refl _) (.cells #[.string NB, .bool fi, .string SB, .slice ia ni ic, .slice fa nf fc, .slice ma nm mc] 59)); have HX0 := hide (heap_alloc_new w (.cells #[.string NB, .bool fi, .string SB, .slice ia ni ic, .slice fa nf fc, .slice ma nm mc] 59)); go_enter Tryz.func37, Tryz.ntmps37; go_wp2_with fail; generalize w.alloc (.cells #[.string NB, .bool fi, .string SB, .slice ia ni ic, .slice fa nf fc, .slice ma nm mc] 59) = wa at *
 refine (HSu.out wa HB0.out).mono ?_; rintro e w1 ⟨rfl, hb1⟩; have HB1 := hide (HB0.out.trans (hb1.mono HB0.out.size)); have HX1 := hide ((hb1.block _ (Ow.lt_of_blk HX0.out)).trans HX0.out); clear HSu hb1 HX0; go_wp2_with fail; refine (HSl.out w1 HB1.out).mono ?_; rintro e w2 ⟨vs, rfl, ho2, hb2⟩; have HB2 := hide (HB1.out.trans (hb2.mono HB1.out.size)); have HX2 := hide ((hb2.block _ (Ow.lt_of_blk HX1.out)).trans HX1.out); have hsrow := ho2.row shp_slt fun _ _ h => h; obtain ⟨sa, sc, rfl, _⟩ := hsrow.len; obtain ⟨ns, hns⟩ : ∃ y, y = (N.sl q).length := ⟨_, rfl⟩; have HNs := hide hns; have hns1 : (ns : Int) <= 100000 := by have := HSs.out; omega
 rw [<- hns] at hsrow ⊢; have HRs := hide hsrow; clear HSl hb2 ho2 hsrow hns HX1; go_wp2_with fail
 go_loopw [7] (fun i wr => ∃ k : Nat, k <= nf /\ i = .int .i64 k /\ Hid (Below w2.heap.size w2 wr) /\ Hid ((c.fields.take k).any (Ly.clashF N q) = false)) (fun i _ => nf - (intOf i).toNat)
 case atStart => exact ⟨0, Nat.zero_le _, rfl, hide (Below.refl _ _), hide (by simp)⟩
 case round =>
  obtain ⟨k, hk, rfl, HB, HA⟩ := hrel; have hX3 := (HB.out.block _ (Ow.lt_of_blk HX2.out)).trans HX2.out; have c4 := cell_box hX3 4; by_cases hlt : k < nf
  · obtain ⟨x, hx⟩ : ∃ x, c.fields[k]? = some x := ⟨c.fields[k]'(by rw [<- HNf.out]; exact hlt), List.getElem?_eq_getElem _⟩
    obtain ⟨g, o, rfl, ys, wf, hc⟩ := Ow.row_at' HRf.out hx; obtain ⟨rfl, _⟩ := wf; have HCk := hide hc; have HBad := hide (fun hp => H6.out (Ly.any_stop (p := Ly.clashF N q) hx hp)); have HGood := hide (fun hp => Ly.any_take (p := Ly.clashF N q) HA.out hx hp); have hcf : Ly.clashF N q x = (!x.stat && (N.sl q).any fun t => t.name == x.name) := rfl; rw [hcf] at HBad HGood; have hlt' : (k : Int) < (nf : Int) := by omega
    obtain ⟨fs, hfs⟩ : ∃ y, y = x.stat := ⟨_, rfl⟩; have HFs := hide hfs; rw [<- hfs] at HBad HGood; clear hx hc hX3 hcf HA hfs; go_wp2_with fail
    go_loopw [8] (fun i wr => ∃ j : Nat, j <= ns /\ i = .int .i64 j /\ Hid (Below w2.heap.size w2 wr) /\ Hid (fs = false -> ((N.sl q).take j).any (fun t => t.name == x.name) = false)) (fun i _ => ns - (intOf i).toNat)
    case atStart => exact ⟨0, Nat.zero_le _, rfl, HB, hide (by simp)⟩
    case round =>
     clear HB c4; obtain ⟨j, hj, rfl, HB, HJ⟩ := hrel; have hX3 := (HB.out.block _ (Ow.lt_of_blk HX2.out)).trans HX2.out; have c4 := cell_box hX3 4; clear hX3; by_cases hjl : j < ns
     · obtain ⟨t, ht⟩ : ∃ y, (N.sl q)[j]? = some y := ⟨(N.sl q)[j]'(by rw [<- HNs.out]; exact hjl), List.getElem?_eq_getElem _⟩
       obtain ⟨g3, o3, rfl, zs, wz, hcz⟩ := Ow.row_at' HRs.out ht; have wz' : zs = [.string ⟨t.owner.toArray⟩, .string ⟨t.name.toArray⟩, .int .i64 t.ty.kind, .string ⟨t.ty.name.toArray⟩] := wz; subst wz'; have HBw := hide (HB2.out.trans (HB.out.mono HB2.out.size)); have r0 := HCk.out wr HBw.out 0 _ rfl; have r3 := HCk.out wr HBw.out 3 _ rfl; have s1 := hcz wr HB.out 1 _ rfl; rw [Nat.add_zero] at r0; rw [<- HFs.out] at r3; have hjl' : (j : Int) < (ns : Int) := by omega
       cases fs with
       | true =>
         clear ht hcz wz HJ; go_wp2_with fail
         go_quiet (fail)
         go_wp2_with fail
         go_roundw
         case rel => exact ⟨j + 1, by omega, by go_num, hide (by first | exact HB.out | exact below_drewN HB.out _), hide (fun h => by cases h)⟩
         case measure => simp [intOf]; omega
       | false =>
         by_cases hn : t.name = x.name
         · have HF := hide (HBad.out (by rw [Ly.any_stop (p := fun t : Pp.Slt => t.name == x.name) ht (by rw [hn]; simp)]; rfl))
           rw [hn] at s1; clear ht hcz wz hn HJ; go_wp2_with fail
           go_quiet (fail)
           go_wp2_with fail; go_ret; exact ⟨by rw [HF.out]; rfl, HB2.out.trans ((by first | exact HB.out | exact below_drewN HB.out _ : Below w2.heap.size w2 _).mono HB2.out.size)⟩
         · have hne : (t.name == x.name) = false := by simpa using hn
           have HJ2 := hide (Ly.any_take (p := fun t : Pp.Slt => t.name == x.name) (HJ.out rfl) ht hne); clear ht hcz wz hn HJ; go_wp2_with fail
           go_quiet (fail)
           go_wp2_with fail
           go_roundw
           case rel => exact ⟨j + 1, by omega, by go_num, hide (by first | exact HB.out | exact below_drewN HB.out _), hide (fun _ => HJ2.out)⟩
           case measure => simp [intOf]; omega
     · have HA2 := hide (HGood.out (by
        cases fs with
        | true => rfl
        | false => rw [Ly.any_end (HJ.out rfl) (by rw [<- HNs.out]; omega)]; rfl))
       have hjn : ¬ ((j : Int) < (ns : Int)) := by omega
       clear HJ; go_wp2_with fail
       go_roundw
       case rel => exact ⟨k + 1, by omega, by go_num, HB, HA2⟩
       case measure => simp [intOf]; omega
  · have HFl : Hid (c.fields.any (Ly.clashF N q) = false) := hide (Ly.any_end HA.out (by rw [<- HNf.out]; omega))
    have hnl : ¬ ((k : Int) < (nf : Int)) := by omega
    clear HA hX3; go_wp2_with fail
    go_loopw [9] (fun i wr => ∃ k : Nat, k <= nm /\ i = .int .i64 k /\ Hid (Below w2.heap.size w2 wr) /\ Hid ((c.methods.take k).any (Ly.clashM N q) = false)) (fun i _ => nm - (intOf i).toNat)
    case atStart => exact ⟨0, Nat.zero_le _, rfl, HB, hide (by simp)⟩
    case round =>
     clear HB c4; obtain ⟨k, hk, rfl, HB, HA⟩ := hrel; have HBw := hide (HB2.out.trans (HB.out.mono HB2.out.size)); have HX3 := hide ((HB.out.block _ (Ow.lt_of_blk HX2.out)).trans HX2.out); have c5 := cell_box HX3.out 5; by_cases hlt : k < nm
     · obtain ⟨m, hx⟩ : ∃ x, c.methods[k]? = some x := ⟨c.methods[k]'(by rw [<- HNm.out]; exact hlt), List.getElem?_eq_getElem _⟩
       obtain ⟨g, o, e3, ys, wf, hc⟩ := Ow.row_at' HRm.out hx; subst e3; have HCk := hide hc; have HMf := hide wf; have hmp := HPm.out m (List.mem_of_getElem? hx); have HBad := hide (fun hp => H8.out HFl.out (Ly.any_stop (p := Ly.clashM N q) hx hp)); have HGood := hide (fun hp => Ly.any_take (p := Ly.clashM N q) HA.out hx hp); obtain ⟨vp, vc', vk, rfl, z1, z2, z3, _⟩ := wf; obtain ⟨ap, cp, rfl, _⟩ := z1.len; obtain ⟨ac, cc, rfl, _⟩ := z2.len; obtain ⟨ak, ck, rfl, _⟩ := z3.len; simp only [mthXL] at HMf HCk; have r0 := HCk.out wr HBw.out 0 _ rfl; rw [Nat.add_zero] at r0; have hlt' : (k : Int) < (nm : Int) := by omega
       have HMc := hide (HMe.out wr HBw.out m.name); obtain ⟨cl, hcl⟩ : ∃ y, y = Ly.clashM N q m := ⟨_, rfl⟩; have HCl := hide hcl; unfold Ly.clashM at HCl; rw [<- hcl] at HBad HGood; have HMnm := hide (HMn.out m.name); generalize Ly.methP N q m.name = res at HMc HCl HMnm; clear hx hc z1 z2 z3 HA hcl; go_wp2_with fail; refine HMc.out.mono ?_; rintro e w5 ⟨⟨zs, rfl, hz1, hz2⟩, hb5⟩; have HB5 := hide (HB.out.trans (hb5.mono HB.out.size)); have HX5 := hide ((hb5.block _ (Ow.lt_of_blk HX3.out)).trans HX3.out); clear HMc hb5 HX3 c5; cases res with
       | none =>
         have hzs := hz2 rfl; subst hzs; have HA2 := hide (HGood.out HCl.out); have hA := (Below.refl w5.heap.size w5).alloc (Nat.le_refl _) (.cells #[.string ⟨#[]⟩, .bool false, .bool false, .slice none 0 0, .int .i64 0, .string ⟨#[]⟩, .int .i64 0, .slice none 0 0, .slice none 0 0] 39); have HB6 := hide (HB5.out.trans (hA.mono HB5.out.size)); clear HBad HGood HCl hz1 hz2 hA HMnm; simp only [zeroM, Option.map_none, Option.getD_none]; go_wp2_with fail
         go_quiet (fail)
         go_wp2_with fail
         go_roundw
         case rel => exact ⟨k + 1, by omega, by go_num, hide (by first | exact HB6.out | exact below_drewN HB6.out _), HA2⟩
         case measure => simp [intOf]; omega
       | some o' =>
         have ho := hz1 o' rfl; have HO := hide ho.x; obtain ⟨_, _, _, rfl, y1, y2, y3, _⟩ := ho; obtain ⟨tp, dp, rfl⟩ := y1.shape; obtain ⟨tc, dc, rfl⟩ := y2.shape; obtain ⟨tk, dk, rfl⟩ := y3.shape; obtain ⟨hne0, hop⟩ := HMnm.out o' rfl; have HCl2 : Hid (cl = (o'.2.stat != m.stat || !Ly.alikeB o'.2 m)) := hide HCl.out
         simp only [mthXL, Option.map_some, Option.getD_some] at HO ⊢; have HAl := hide (fun wx (hb : Below w5.heap.size w5 wx) => ralike_any o'.2 m _ _ wx (HO.out.on hb) (HMf.out.on ((HB2.out.trans (HB5.out.mono HB2.out.size)).trans (hb.mono (Nat.le_trans HB2.out.size HB5.out.size)))) (by omega) (by omega))
         have hne1 : (⟨o'.1.toArray⟩ : ByteArray) ≠ ⟨#[]⟩ := fun h => hne0 (by have := congrArg (fun b : ByteArray => b.data.toList) h; simpa using this)
         have hA := (Below.refl w5.heap.size w5).alloc (Nat.le_refl _) (.cells #[.string ⟨o'.2.name.toArray⟩, .bool o'.2.stat, .bool o'.2.abst, .slice tp o'.2.params.length dp, .int .i64 o'.2.ret.kind, .string ⟨o'.2.ret.name.toArray⟩, .int .i64 o'.2.locals, .slice tc o'.2.code.length dc, .slice tk o'.2.catches.length dk] 39); have hM0 := heap_alloc_new w5 (.cells #[.string ⟨o'.2.name.toArray⟩, .bool o'.2.stat, .bool o'.2.abst, .slice tp o'.2.params.length dp, .int .i64 o'.2.ret.kind, .string ⟨o'.2.ret.name.toArray⟩, .int .i64 o'.2.locals, .slice tc o'.2.code.length dc, .slice tk o'.2.catches.length dk] 39); clear hz1 hz2 y1 y2 y3 HCl HMnm hne0 HO HMf; obtain ⟨al, hal⟩ : ∃ y, y = Ly.alikeB o'.2 m := ⟨_, rfl⟩; rw [<- hal] at HAl HCl2; have HA6 := hide hA; have HM6 := hide hM0; clear hA hM0; generalize (⟨o'.1.toArray⟩ : ByteArray) = EN at *
         clear hal; obtain ⟨os, hos⟩ : ∃ y, y = o'.2.stat := ⟨_, rfl⟩; obtain ⟨st, hst⟩ : ∃ y, y = m.stat := ⟨_, rfl⟩; rw [<- hos, <- hst] at HCl2; rw [<- hos] at HAl HA6 HM6 ⊢; rw [<- hst] at HAl HCk; clear hos hst; generalize (⟨o'.2.name.toArray⟩ : ByteArray) = ON at *
         generalize o'.2.abst = oa at *
         generalize o'.2.params.length = o1 at *
         generalize (o'.2.ret.kind : Int) = ok' at *
         generalize (⟨o'.2.ret.name.toArray⟩ : ByteArray) = OR at *
         generalize (o'.2.locals : Int) = ol at *
         generalize o'.2.code.length = o2 at *
         generalize o'.2.catches.length = o3 at *
         go_wp2_with fail; generalize w5.alloc (.cells #[.string ON, .bool os, .bool oa, .slice tp o1 dp, .int .i64 ok', .string OR, .int .i64 ol, .slice tc o2 dc, .slice tk o3 dk] 39) = w6 at *
         have HX6 := hide ((HA6.out.block _ (Ow.lt_of_blk HX5.out)).trans HX5.out); have HB6 := hide (HB5.out.trans (HA6.out.mono HB5.out.size)); have HBw6 := hide (HB2.out.trans (HB6.out.mono HB2.out.size))
         have HS := hide (fun wz (hb : Below w6.heap.size w6 wz) => show wz.cell? ⟨w.heap.size, 5, none⟩ = some (.slice (some ⟨g, o, none⟩) nm mc) /\ wz.cell? ⟨w5.heap.size, 0, none⟩ = some (.string ON) /\ wz.cell? ⟨w5.heap.size, 1, none⟩ = some (.bool os) /\ wz.cell? ⟨w5.heap.size, 2, none⟩ = some (.bool oa) /\ wz.cell? ⟨w5.heap.size, 3, none⟩ = some (.slice tp o1 dp) /\ wz.cell? ⟨w5.heap.size, 4, none⟩ = some (.int .i64 ok') /\ wz.cell? ⟨w5.heap.size, 5, none⟩ = some (.string OR) /\ wz.cell? ⟨w5.heap.size, 6, none⟩ = some (.int .i64 ol) /\ wz.cell? ⟨w5.heap.size, 7, none⟩ = some (.slice tc o2 dc) /\ wz.cell? ⟨w5.heap.size, 8, none⟩ = some (.slice tk o3 dk) /\ wz.cell? ⟨g, o + k * 9, none⟩ = some (.string ⟨m.name.toArray⟩) /\ wz.cell? ⟨g, o + k * 9 + 1, none⟩ = some (.bool st) /\ wz.cell? ⟨g, o + k * 9 + 2, none⟩ = some (.bool m.abst) /\ wz.cell? ⟨g, o + k * 9 + 3, none⟩ = some (.slice ap m.params.length cp) /\ wz.cell? ⟨g, o + k * 9 + 4, none⟩ = some (.int .i64 m.ret.kind) /\ wz.cell? ⟨g, o + k * 9 + 5, none⟩ = some (.string ⟨m.ret.name.toArray⟩) /\ wz.cell? ⟨g, o + k * 9 + 6, none⟩ = some (.int .i64 m.locals) /\ wz.cell? ⟨g, o + k * 9 + 7, none⟩ = some (.slice ac m.code.length cc) /\ wz.cell? ⟨g, o + k * 9 + 8, none⟩ = some (.slice ak m.catches.length ck) from by
          have hz := (hb.block _ (Ow.lt_of_blk HX6.out)).trans HX6.out; have hy := (hb.block _ (Ow.lt_of_blk HM6.out)).trans HM6.out; have hr := fun j u (e : [.string ⟨m.name.toArray⟩, .bool st, .bool m.abst, .slice ap m.params.length cp, .int .i64 m.ret.kind, .string ⟨m.ret.name.toArray⟩, .int .i64 m.locals, .slice ac m.code.length cc, .slice ak m.catches.length ck][j]? = some u) => HCk.out wz (HBw6.out.trans (hb.mono HBw6.out.size)) j u e; refine ⟨cell_box hz 5, cell_box hy 0, cell_box hy 1, cell_box hy 2, cell_box hy 3, cell_box hy 4, cell_box hy 5, cell_box hy 6, cell_box hy 7, cell_box hy 8, ?_, hr 1 _ rfl, hr 2 _ rfl, hr 3 _ rfl, hr 4 _ rfl, hr 5 _ rfl, hr 6 _ rfl, hr 7 _ rfl, hr 8 _ rfl⟩; have h0 := hr 0 _ rfl; rw [Nat.add_zero] at h0
          exact h0)
         have HBz : Hid (Below w6.heap.size w6 w6.drew) := hide (Below.drew (Below.refl _ _)); clear HCk HX5 HX6 HM6; by_cases hs : os = st
         · subst hs
           have HCl3 : Hid (cl = !al) := hide (by rw [HCl2.out]; cases os <;> simp)
           clear HCl2; have hss : (os != os) = false := by simp
           have hne2 := ba_ne hne1
           go_region_held3 (fun wz => wz.cell? ⟨w.heap.size, 5, none⟩ = some (.slice (some ⟨g, o, none⟩) nm mc) /\ wz.cell? ⟨w5.heap.size, 0, none⟩ = some (.string ON) /\ wz.cell? ⟨w5.heap.size, 1, none⟩ = some (.bool os) /\ wz.cell? ⟨w5.heap.size, 2, none⟩ = some (.bool oa) /\ wz.cell? ⟨w5.heap.size, 3, none⟩ = some (.slice tp o1 dp) /\ wz.cell? ⟨w5.heap.size, 4, none⟩ = some (.int .i64 ok') /\ wz.cell? ⟨w5.heap.size, 5, none⟩ = some (.string OR) /\ wz.cell? ⟨w5.heap.size, 6, none⟩ = some (.int .i64 ol) /\ wz.cell? ⟨w5.heap.size, 7, none⟩ = some (.slice tc o2 dc) /\ wz.cell? ⟨w5.heap.size, 8, none⟩ = some (.slice tk o3 dk) /\ wz.cell? ⟨g, o + k * 9, none⟩ = some (.string ⟨m.name.toArray⟩) /\ wz.cell? ⟨g, o + k * 9 + 1, none⟩ = some (.bool os) /\ wz.cell? ⟨g, o + k * 9 + 2, none⟩ = some (.bool m.abst) /\ wz.cell? ⟨g, o + k * 9 + 3, none⟩ = some (.slice ap m.params.length cp) /\ wz.cell? ⟨g, o + k * 9 + 4, none⟩ = some (.int .i64 m.ret.kind) /\ wz.cell? ⟨g, o + k * 9 + 5, none⟩ = some (.string ⟨m.ret.name.toArray⟩) /\ wz.cell? ⟨g, o + k * 9 + 6, none⟩ = some (.int .i64 m.locals) /\ wz.cell? ⟨g, o + k * 9 + 7, none⟩ = some (.slice ac m.code.length cc) /\ wz.cell? ⟨g, o + k * 9 + 8, none⟩ = some (.slice ak m.catches.length ck)) (exact HS.out _ HBz.out)
            (first
              | (go_at_call 65
                 with_reducible refine (HAl.out _ (HA6.out.trans (HBz.out.mono HA6.out.size))).mono ?_
                 rintro e w7 ⟨rfl, hb7⟩; have HBz := hide (HBz.out.trans (hb7.mono HBz.out.size))
                 clear hb7)
              | fail)
           all_goals
            have HB7 := hide (HB6.out.trans (HBz.out.mono HB6.out.size)); cases al with
            | true =>
              have HA2 := hide (HGood.out HCl3.out); clear HBad HGood HAl HS; go_wp2_with fail
              go_roundw
              case rel => exact ⟨k + 1, by omega, by go_num, HB7, HA2⟩
              case measure => simp [intOf]; omega
            | false =>
              have HF := hide (HBad.out HCl3.out); clear HBad HGood HAl HS; go_wp2_with fail; go_ret; exact ⟨by rw [HF.out]; rfl, HB2.out.trans (HB7.out.mono HB2.out.size)⟩
         · have hss : (os != st) = true := by cases os <;> cases st <;> simp at hs ⊢
           have HF := hide (HBad.out (by rw [HCl2.out, hss]; rfl))
           have hne2 := ba_ne hne1; obtain ⟨q0, q1, q2, q3, q4, q5, q6, q7, q8, q9, q10, q11, q12, q13, q14, q15, q16, q17, q18⟩ := HS.out w6 (Below.refl _ _)
           go_quiet (fail)
           clear HBad HGood HAl HS; go_wp2_with fail; go_ret; exact ⟨by rw [HF.out]; rfl, HB2.out.trans ((by first | exact HB6.out | exact below_drewN HB6.out _ : Below w2.heap.size w2 _).mono HB2.out.size)⟩
     · have HF := hide (H0.out HFl.out (Ly.any_end HA.out (by rw [<- HNm.out]; omega)))
       have hnl : ¬ ((k : Int) < (nm : Int)) := by omega
       clear HA; go_wp2_with fail; go_ret; exact ⟨by rw [HF.out]; rfl, HBw.out⟩
end Go.Proofs.YtjlappamkfjlkaaGreatDoor

/- What the laws of this seat lean on: 4 texts. -/
import Derived.Test.YtbbbnciejmdpfabGreatDoorPkAt
import Derived.Test.YtbbbnciejmdpfabGreatDoorPkAl
set_option maxRecDepth 100000
set_option maxHeartbeats 64000000
set_option linter.unusedVariables false
set_option linter.unusedSimpArgs false
namespace Go.Proofs.YtbbbnciejmdpfabGreatDoor
open Go.RowKit
namespace Hr
def lookL (cs : List Pp.XCls) (nm : Pp.Bs) : Option Nat := if errL cs = 0 then placeL (allL cs) nm else none
def superQ (cs : List Pp.XCls) (nm : Pp.Bs) : Option Pp.Bs := match lookL cs nm with
 | none => none
 | some k => match (allL cs)[k]? with
   | none => none
   | some c => superL c
def underQ (cs : List Pp.XCls) (a b : Pp.Bs) : Prop := ∃ up i j, errL cs = 0 /\ growL (allL cs) (allL cs) = some up /\ placeL (allL cs) a = some i /\ placeL (allL cs) b = some j /\ (i = j \/ j = 0 \/ Far up i j)
theorem lookL_no {cs : List Pp.XCls} {nm : Pp.Bs} (h : errL cs ≠ 0) : lookL cs nm = none := by unfold lookL; rw [if_neg h]
theorem lookL_yes {cs : List Pp.XCls} {nm : Pp.Bs} (h : errL cs = 0) : lookL cs nm = placeL (allL cs) nm := by unfold lookL; rw [if_pos h]
theorem lookL_some {cs : List Pp.XCls} {nm : Pp.Bs} {k : Nat} (h : lookL cs nm = some k) : errL cs = 0 /\ placeL (allL cs) nm = some k := by
 unfold lookL at h
 split at h
 · exact ⟨by assumption, h⟩
 · cases h
end Hr
theorem hCheck_any (cs : List Pp.XCls) (v : Value) (w : World) (ht : TabS w) (h : ProgX w v cs) :
 Calls Tryz.prog 71 #[.agg #[v]] w fun e w' => e = .returned (.int .i64 (Hr.errL cs)) /\ Below w.heap.size w w' := by
 have HG := hide (fun wx (hb : Below w.heap.size w wx) => grow_any cs v w wx (ht.below hb) hb h); obtain ⟨pa, pc, rfl, _⟩ := h.1.len; clear h ht; generalize cs.length = n at *
 have HB0 := hide ((Below.refl w.heap.size w).alloc (Nat.le_refl _) (.cells #[.slice pa n pc] 24)); go_enter Tryz.func71, Tryz.ntmps71; go_wp2_with fail; refine (HG.out _ HB0.out).mono ?_; rintro e w1 ⟨⟨a1, n1, c1, a2, n2, c2, rfl, _⟩, hb1⟩; have HB1 := hide (HB0.out.trans (hb1.mono HB0.out.size)); clear hb1 HG HB0; go_wp2_with fail; go_ret; exact ⟨rfl, HB1.out.alloc HB1.out.size _⟩
theorem look_any (cs : List Pp.XCls) (v : Value) (nm : Pp.Bs) (wp w : World) (ht : TabS w) (hwp : Below wp.heap.size wp w) (h : ProgX wp v cs) :
 Calls Tryz.prog 21 #[.agg #[v], .string ⟨nm.toArray⟩] w fun e w' => (∃ a1 n1 c1 a2 n2 c2, e = .returned (.tuple #[.agg #[.slice a1 n1 c1, .slice a2 n2 c2], .int .i64 (Hr.pairP (Hr.lookL cs nm)).1, .bool (Hr.pairP (Hr.lookL cs nm)).2]) /\ (Hr.errL cs = 0 -> ∃ up, Hr.TreeO wp w' cs (.slice a1 n1 c1) (.slice a2 n2 c2) up)) /\ Below w.heap.size w w' := by
 have HG := hide (fun wx (hb : Below w.heap.size w wx) => grow_any cs v wp wx (ht.below hb) (hwp.trans (hb.mono hwp.size)) h); have HWP := hide hwp; obtain ⟨pa, pc, rfl, _⟩ := h.1.len; clear h ht hwp; generalize cs.length = n at *
 have hx1 := hide (Ow.blk_alloc2b w (.cells #[.slice pa n pc] 24) (.cells #[.slice none 0 0, .slice none 0 0] 60)); have HB0 := hide (Ow.bel_alloc2 w (.cells #[.slice pa n pc] 24) (.cells #[.slice none 0 0, .slice none 0 0] 60)); go_enter Tryz.func21, Tryz.ntmps21; go_wp2_with fail; generalize (w.alloc (.cells #[.slice pa n pc] 24)).alloc (.cells #[.slice none 0 0, .slice none 0 0] 60) = w0 at *
 refine (HG.out _ HB0.out).mono ?_; rintro e w1 ⟨⟨a1, n1, c1, a2, n2, c2, rfl, htr⟩, hb1⟩; have HTR := hide htr; have HB1 := hide hb1; have HX := hide ((hb1.block _ (Ow.lt_of_blk hx1.out)).trans hx1.out); have k0 := cell_box HX.out 0; have k1 := cell_box HX.out 1; have f0 := Ow.fz_blk HX.out 0; have f1 := Ow.fz_blk HX.out 1; have HPt := hide (Hr.two_put HX.out (.slice a1 n1 c1) (.slice a2 n2 c2)); clear htr hb1 hx1 HG; by_cases he : Hr.errL cs = 0
 · obtain ⟨up, htr⟩ := HTR.out he
   rw [he]; have HT2 := hide (htr.kx HPt.out.2.1); have HB2 := hide ((HB0.out.trans (HB1.out.mono HB0.out.size)).trans (HPt.out.2.2 w.heap.size (by omega)))
   have hl0 := HT2.out.top; have HPl : Hid (∀ wx, Below ((w1.setCell ⟨w.heap.size + 1, 0, none⟩ (.slice a1 n1 c1)).setCell ⟨w.heap.size + 1, 1, none⟩ (.slice a2 n2 c2)).heap.size ((w1.setCell ⟨w.heap.size + 1, 0, none⟩ (.slice a1 n1 c1)).setCell ⟨w.heap.size + 1, 1, none⟩ (.slice a2 n2 c2)) wx -> Calls Tryz.prog 22 #[.slice a1 n1 c1, .string ⟨nm.toArray⟩] wx fun e w' => e = .returned (.tuple #[.int .i64 (Hr.pairP (Hr.placeL (Hr.allL cs) nm)).1, .bool (Hr.pairP (Hr.placeL (Hr.allL cs) nm)).2]) /\ Below wx.heap.size wx w') := hide fun wx hb => place_any _ _ nm wx (((HT2.out.on hb).x (HWP.out.trans ((HB2.out.trans (hb.mono HB2.out.size)).mono HWP.out.size))).all) (by unfold maxLen; omega)
   have HE := hide he; have HLk := hide (Hr.lookL_yes (nm := nm) he); clear he htr HTR hl0; go_wp2_with fail; refine (HPl.out _ (Below.refl _ _)).mono ?_; rintro e w5 ⟨rfl, hb5⟩; have HB5 := hide (HB2.out.trans (hb5.mono HB2.out.size)); have HT5 := hide (HT2.out.on hb5); have HX5 := hide ((hb5.block _ (Ow.lt_of_blk HPt.out.1)).trans HPt.out.1); have s0 := cell_box HX5.out 0; have s1 := cell_box HX5.out 1; have g0 := Ow.fz_blk HX5.out 0; have g1 := Ow.fz_blk HX5.out 1; have HPz := hide (Hr.two_put HX5.out (.slice a1 n1 c1) (.slice a2 n2 c2)); clear hb5 k0 k1 f0 f1; obtain ⟨lk, hlk⟩ : ∃ lk, lk = Hr.pairP (Hr.placeL (Hr.allL cs) nm) := ⟨_, rfl⟩; have HLK := hide hlk; rw [<- hlk]; clear hlk HPl; go_wp2_with fail; refine bodyPost_ret (v := .tuple #[.agg #[.slice a1 n1 c1, .slice a2 n2 c2], .int .i64 lk.1, .bool lk.2]) (by simp [results, Tryz.results21, go_sem, *]) rfl ?_
   rw [HLk.out, <- HLK.out]; exact ⟨⟨_, _, _, _, _, _, rfl, fun _ => ⟨up, HT5.out.kx HPz.out.2.1⟩⟩, HB5.out.trans (HPz.out.2.2 w.heap.size (by omega))⟩
 · have HE := hide he
   have HLk := hide (Hr.lookL_no (nm := nm) he); have HPz := hide (Hr.two_put HPt.out.1 (.slice none 0 0) (.slice none 0 0)); go_wp2_with fail; have z0 := cell_box HPz.out.1 0; have z1 := cell_box HPz.out.1 1; simp only [List.size_toArray, List.length_cons, List.length_nil, Nat.zero_add, Nat.lt_add_one, getElem?_pos, List.getElem_toArray, List.getElem_cons_zero, List.getElem_cons_succ] at z0 z1; refine bodyPost_ret (v := .tuple #[.agg #[.slice none 0 0, .slice none 0 0], .int .i64 0, .bool false]) (by simp [results, Tryz.results21, go_sem, z0, z1]) rfl ?_
   rw [HLk.out]; exact ⟨⟨_, _, _, _, _, _, rfl, fun h => absurd h HE.out⟩, ((HB0.out.trans (HB1.out.mono HB0.out.size)).trans (HPt.out.2.2 w.heap.size (by omega))).trans (HPz.out.2.2 w.heap.size (by omega))⟩
namespace Hr
theorem all_base {cs : List Pp.XCls} {k : Nat} (h : k < 8) : (allL cs)[k]? = base[k]? := by
 unfold allL; rw [List.getElem?_append_left (by exact h)]
theorem base_at {k : Nat} (h : k < 8) : ∃ x, base[k]? = some x /\ x.iface = false /\ x.ifaces = [] /\ x.fields = [] /\ x.methods = [] := by
 have : k = 0 \/ k = 1 \/ k = 2 \/ k = 3 \/ k = 4 \/ k = 5 \/ k = 6 \/ k = 7 := by omega
 rcases this with rfl | rfl | rfl | rfl | rfl | rfl | rfl | rfl <;> exact ⟨_, rfl, rfl, rfl, rfl, rfl⟩
theorem up_top {cs : List Pp.XCls} {up : List (List Nat)} (hg : growL (allL cs) (allL cs) = some up) : up[0]? = some [] := by
 obtain ⟨u, hu, h⟩ := growL_at hg (k := 0) (c := plain objN []) rfl; rw [hu]; unfold upsL supL at h; rw [show superL (plain objN []) = none from by decide] at h
 simp only [ifsL, plain, Option.map_some] at h; rw [<- h]; rfl
theorem place_one {cs : List Pp.XCls} (ho : oneL (allL cs)) : placeL (allL cs) errN = some 1 := ho 1 (plain errN objN) rfl
theorem place_top {cs : List Pp.XCls} : placeL (allL cs) objN = some 0 := rfl
end Hr
namespace Hr
theorem under_self {cs : List Pp.XCls} (he : errL cs = 0) {i : Nat} {x : Pp.XCls} (hx : (allL cs)[i]? = some x) : underQ cs x.name x.name := by
 obtain ⟨_, ho, up, hg, _⟩ := err_zero he; exact ⟨up, i, i, he, hg, ho i x hx, ho i x hx, .inl rfl⟩
theorem under_top {cs : List Pp.XCls} (he : errL cs = 0) {i : Nat} {x : Pp.XCls} (hx : (allL cs)[i]? = some x) : underQ cs x.name objN := by
 obtain ⟨_, ho, up, hg, _⟩ := err_zero he; exact ⟨up, i, 0, he, hg, ho i x hx, place_top, .inr (.inl rfl)⟩
structure Climb (cs : List Pp.XCls) (up : List (List Nat)) (p0 p : Nat) (vs : List Nat) : Prop where
 nod : (p :: vs).Nodup
 lt : ∀ v ∈ p :: vs, v < (allL cs).length
 far : ∀ v ∈ vs, Far up v p
 fro : p = p0 \/ Far up p0 p
theorem Climb.few {cs : List Pp.XCls} {up : List (List Nat)} {p0 p : Nat} {vs : List Nat} (h : Climb cs up p0 p vs) : vs.length < (allL cs).length := by
 have key : ∀ (l : List Nat), l.Nodup -> ∀ n, (∀ v ∈ l, v < n) -> l.length <= n := by
  intro l hn n hl; have := List.Nodup.length_le_of_subset hn (l₂ := List.range n) (fun v hv => List.mem_range.2 (hl v hv))
  simpa using this
 have := key _ h.nod _ h.lt; simp at this; omega
theorem Climb.start {cs : List Pp.XCls} {up : List (List Nat)} {p : Nat} (h : p < (allL cs).length) : Climb cs up p p [] :=
 ⟨by simp, by simpa using h, by simp, .inl rfl⟩
theorem Climb.step {cs : List Pp.XCls} {up : List (List Nat)} {p0 p q : Nat} {vs : List Nat} (hr : ¬ Ring up) (h : Climb cs up p0 p vs) (s : Step up p q) (hq : q < (allL cs).length) : Climb cs up p0 q (p :: vs) := by
 have hf : ∀ v ∈ p :: vs, Far up v q := by
  intro v hv
  rcases List.mem_cons.1 hv with rfl | hv
  · exact .one s
  · exact .more (h.far v hv) s
 refine ⟨List.nodup_cons.2 ⟨fun hm => hr ⟨q, hf q hm⟩, h.nod⟩, ?_, hf, ?_⟩
 · intro v hv
   rcases List.mem_cons.1 hv with rfl | hv
   · exact hq
   · exact h.lt v hv
 · rcases h.fro with rfl | h1
   · exact .inr (.one s)
   · exact .inr (.more h1 s)
theorem super_step {cs : List Pp.XCls} {up : List (List Nat)} (hg : growL (allL cs) (allL cs) = some up) {p : Nat} {c : Pp.XCls} {s : Pp.Bs} (hc : (allL cs)[p]? = some c) (hs : superL c = some s) : ∃ q d, placeL (allL cs) s = some q /\ (allL cs)[q]? = some d /\ d.name = s /\ d.iface = false /\ Step up p q /\ q < (allL cs).length := by
 obtain ⟨u, hu, huc⟩ := growL_at hg hc; unfold upsL supL at huc; rw [hs] at huc; simp only at huc; cases hu1 : upL (allL cs) false s with
 | none => rw [hu1] at huc; cases huc
 | some q =>
   rw [hu1] at huc; simp only [Option.map_some] at huc; cases hi : ifsL (allL cs) c.ifaces with
   | none => rw [hi] at huc; cases huc
   | some b =>
     rw [hi] at huc; cases huc; obtain ⟨h1, h2, d, h3, h4⟩ := upL_lt hu1; obtain ⟨d', h5, h6, _⟩ := placeL_lt h2; rw [h3] at h5; cases h5; exact ⟨q, d, h2, h3, h6, h4, ⟨_, hu, by simp⟩, h1⟩
theorem superQ_at {cs : List Pp.XCls} (he : errL cs = 0) {p : Nat} {c : Pp.XCls} (hc : (allL cs)[p]? = some c) : superQ cs c.name = superL c := by
 obtain ⟨_, ho, _⟩ := err_zero he; unfold superQ; rw [lookL_yes he, ho p c hc]; simp only [hc]
end Hr
namespace Hr
open Pp
def aboveL (c : XCls) : List Bs := (superL c).toList ++ c.ifaces
def NStep (l : List XCls) (x y : Bs) : Prop := ∃ k c, placeL l x = some k /\ l[k]? = some c /\ y ∈ aboveL c
def NFarN (l : List XCls) : Nat -> Bs -> Bs -> Prop
 | 0, x, z => x = z
 | n + 1, x, z => ∃ y, NFarN l n x y /\ NStep l y z
def NFar (l : List XCls) (x z : Bs) : Prop := ∃ n, NFarN l n x z
theorem NFar.refl {l : List XCls} (x : Bs) : NFar l x x := ⟨0, rfl⟩
theorem NFar.more {l : List XCls} {x y z : Bs} (h : NFar l x y) (s : NStep l y z) : NFar l x z := by
 obtain ⟨n, h⟩ := h; exact ⟨n + 1, y, h, s⟩
theorem NFar.ind {l : List XCls} {x : Bs} {C : Bs -> Prop} (refl : C x) (more : ∀ {y z : Bs}, NFar l x y -> NStep l y z -> C y -> C z) {z : Bs} (h : NFar l x z) : C z := by
 obtain ⟨n, h⟩ := h
 induction n generalizing z with
 | zero => cases h; exact refl
 | succ n ih => obtain ⟨m, h1, h2⟩ := h; exact more ⟨n, h1⟩ h2 (ih h1)
theorem nodup_len {α : Type} [DecidableEq α] : ∀ {l m : List α}, l.Nodup -> (∀ x ∈ l, x ∈ m) -> l.length <= m.length
 | [], _, _, _ => Nat.zero_le _
 | a :: l, m, hn, hs => by
   have ha : a ∈ m := hs a (by simp)
   have hn' := List.nodup_cons.1 hn
   have := nodup_len (l := l) (m := m.erase a) hn'.2 (fun x hx => by
    have hxa : x ≠ a := fun e => hn'.1 (e ▸ hx)
    exact (List.mem_erase_of_ne hxa).2 (hs x (by simp [hx])))
   rw [List.length_erase_of_mem ha] at this; have hp : 0 < m.length := List.length_pos_of_mem ha; simp; omega
def mostL (l : List XCls) : Nat := 1 + (l.flatMap aboveL).length
structure RInv (l : List XCls) (n : Bs) (out : List Bs) (i : Nat) : Prop where
 here : n ∈ out
 far : ∀ x ∈ out, NFar l n x
 fin : ∀ (j : Nat) (x : Bs), j < i -> out[j]? = some x -> ∀ y, NStep l x y -> y ∈ out
 nod : out.Nodup
 org : ∀ x ∈ out, x = n \/ x ∈ l.flatMap aboveL
 low : i <= out.length
structure RMid (l : List XCls) (n : Bs) (out : List Bs) (i : Nat) (x : Bs) (c : XCls) (k : Nat) : Prop where
 inv : RInv l n out i
 at' : out[i]? = some x
 don : ∀ y ∈ (aboveL c).take k, y ∈ out
theorem RInv.few {l : List XCls} {n : Bs} {out : List Bs} {i : Nat} (h : RInv l n out i) : out.length <= mostL l := by
 have := nodup_len (m := n :: l.flatMap aboveL) h.nod (fun x hx => by
  rcases h.org x hx with rfl | h1
  · simp
  · exact List.mem_cons_of_mem _ h1)
 unfold mostL; simp at this ⊢; omega
theorem RInv.start (l : List XCls) (n : Bs) : RInv l n [n] 0 where
 here := by simp
 far := by intro x hx; simp at hx; subst hx; exact .refl _
 fin := fun j x hj => absurd hj (Nat.not_lt_zero _)
 nod := by simp
 org := by intro x hx; simp at hx; exact .inl hx
 low := by simp
theorem RInv.stop {l : List XCls} {n : Bs} {out : List Bs} (h : RInv l n out out.length) (x : Bs) : x ∈ out ↔ NFar l n x := by
 refine ⟨h.far x, fun hf => ?_⟩; refine NFar.ind (C := fun x => x ∈ out) h.here (fun _ s ih => ?_) hf; obtain ⟨j, hj⟩ := List.getElem?_of_mem ih; exact h.fin j _ (List.getElem?_eq_some_iff.1 hj).1 hj _ s
theorem RInv.none {l : List XCls} {n : Bs} {out : List Bs} {i : Nat} {x : Bs} (h : RInv l n out i) (hx : out[i]? = some x) (hp : placeL l x = none) : RInv l n out (i + 1) where
 here := h.here
 far := h.far
 fin := by
  intro j y hj hy z hz
  rcases Nat.lt_or_eq_of_le (Nat.le_of_lt_succ hj) with h1 | rfl
  · exact h.fin j y h1 hy z hz
  · rw [hx] at hy; cases hy
    obtain ⟨k, c, h1, _⟩ := hz; rw [hp] at h1; cases h1
 nod := h.nod
 org := h.org
 low := (List.getElem?_eq_some_iff.1 hx).1
theorem RInv.mid {l : List XCls} {n : Bs} {out : List Bs} {i : Nat} {x : Bs} (h : RInv l n out i) (hx : out[i]? = some x) (c : XCls) : RMid l n out i x c 0 := ⟨h, hx, by intro y hy; simp at hy⟩
theorem RMid.stop {l : List XCls} {n : Bs} {out : List Bs} {i k q : Nat} {x : Bs} {c : XCls} (h : RMid l n out i x c k) (hp : placeL l x = some q) (hc : l[q]? = some c) (hk : (aboveL c).length <= k) : RInv l n out (i + 1) where
 here := h.inv.here
 far := h.inv.far
 fin := by
  intro j y hj hy z hz
  rcases Nat.lt_or_eq_of_le (Nat.le_of_lt_succ hj) with h1 | rfl
  · exact h.inv.fin j y h1 hy z hz
  · rw [h.at'] at hy; cases hy
    obtain ⟨k', c', h1, h2, h3⟩ := hz; rw [hp] at h1; cases h1; rw [hc] at h2; cases h2; exact h.don z (by rw [List.take_of_length_le hk]; exact h3)
 nod := h.inv.nod
 org := h.inv.org
 low := (List.getElem?_eq_some_iff.1 h.at').1
theorem RMid.skip {l : List XCls} {n : Bs} {out : List Bs} {i k : Nat} {x y : Bs} {c : XCls} (h : RMid l n out i x c k) (hy : (aboveL c)[k]? = some y) (hm : y ∈ out) : RMid l n out i x c (k + 1) :=
 ⟨h.inv, h.at', by
   intro z hz; rw [List.take_add_one, hy] at hz
   rcases List.mem_append.1 hz with hz | hz
   · exact h.don z hz
   · simp at hz; subst hz; exact hm⟩
theorem RMid.push {l : List XCls} {n : Bs} {out : List Bs} {i k q : Nat} {x y : Bs} {c : XCls} (h : RMid l n out i x c k) (hp : placeL l x = some q) (hc : l[q]? = some c) (hy : (aboveL c)[k]? = some y) (hm : y ∉ out) : RMid l n (out ++ [y]) i x c (k + 1) := by
 have hil := (List.getElem?_eq_some_iff.1 h.at').1; have hya : y ∈ aboveL c := List.mem_of_getElem? hy; have hst : NStep l x y := ⟨q, c, hp, hc, hya⟩; have hxo : x ∈ out := List.mem_of_getElem? h.at'; refine ⟨⟨by simp [h.inv.here], ?_, ?_, ?_, ?_, ?_⟩, ?_, ?_⟩
 · intro z hz
   rcases List.mem_append.1 hz with hz | hz
   · exact h.inv.far z hz
   · simp at hz; subst hz; exact .more (h.inv.far x hxo) hst
 · intro j z hj hz u hu
   rw [List.getElem?_append_left (by omega)] at hz
   exact List.mem_append_left _ (h.inv.fin j z hj hz u hu)
 · rw [List.nodup_append]
   refine ⟨h.inv.nod, by simp, fun a ha b hb e => ?_⟩
   simp at hb; subst hb; subst e; exact hm ha
 · intro z hz
   rcases List.mem_append.1 hz with hz | hz
   · exact h.inv.org z hz
   · simp at hz; subst hz; exact .inr (List.mem_flatMap.2 ⟨c, List.mem_of_getElem? hc, hya⟩)
 · simp; omega
 · rw [List.getElem?_append_left hil]; exact h.at'
 · intro z hz
   rw [List.take_add_one, hy] at hz
   rcases List.mem_append.1 hz with hz | hz
   · exact List.mem_append_left _ (h.don z hz)
   · simp at hz; subst hz; simp
def RingN (l : List XCls) : Prop := ∃ c ∈ l, ∃ y ∈ aboveL c, NFar l y c.name
theorem ifs_names {l : List XCls} : ∀ {ns : List Bs} {u : List Nat}, ifsL l ns = some u -> (∀ y ∈ ns, ∃ j ∈ u, placeL l y = some j) /\ (∀ j ∈ u, ∃ y ∈ ns, placeL l y = some j)
 | [], u, h => by simp [ifsL] at h; subst h; simp
 | n :: ns, u, h => by
   simp only [ifsL] at h; cases hu : upL l true n with
   | none => rw [hu] at h; cases h
   | some k =>
     rw [hu] at h; cases hr : ifsL l ns with
     | none => rw [hr] at h; cases h
     | some r =>
       rw [hr] at h; cases h; obtain ⟨h1, h2⟩ := ifs_names hr; have hk := (upL_lt hu).2.1; refine ⟨fun y hy => ?_, fun j hj => ?_⟩
       · rcases List.mem_cons.1 hy with rfl | hy
         · exact ⟨k, by simp, hk⟩
         · obtain ⟨j, hj, e⟩ := h1 y hy; exact ⟨j, by simp [hj], e⟩
       · rcases List.mem_cons.1 hj with rfl | hj
         · exact ⟨n, by simp, hk⟩
         · obtain ⟨y, hy, e⟩ := h2 j hj; exact ⟨y, by simp [hy], e⟩
theorem ups_names {l : List XCls} {c : XCls} {u : List Nat} (h : upsL l c = some u) : (∀ y ∈ aboveL c, ∃ j ∈ u, placeL l y = some j) /\ (∀ j ∈ u, ∃ y ∈ aboveL c, placeL l y = some j) := by
 unfold upsL at h; cases hs : supL l c with
 | none => rw [hs] at h; cases h
 | some a =>
   rw [hs] at h; cases hi : ifsL l c.ifaces with
   | none => rw [hi] at h; cases h
   | some b =>
     rw [hi] at h; cases h; obtain ⟨h1, h2⟩ := ifs_names hi; unfold supL at hs; unfold aboveL; cases hsu : superL c with
     | none =>
       rw [hsu] at hs; cases hs
       simpa using ⟨h1, h2⟩
     | some n =>
       rw [hsu] at hs; cases hu : upL l false n with
       | none => simp only [hu] at hs; cases hs
       | some k =>
         simp only [hu] at hs; cases hs; have hk := (upL_lt hu).2.1; refine ⟨fun y hy => ?_, fun j hj => ?_⟩
         · simp at hy
           rcases hy with rfl | hy
           · exact ⟨k, by simp, hk⟩
           · obtain ⟨j, hj, e⟩ := h1 y hy; exact ⟨j, by simp [hj], e⟩
         · simp at hj
           rcases hj with rfl | hj
           · exact ⟨n, by simp, hk⟩
           · obtain ⟨y, hy, e⟩ := h2 j hj; exact ⟨y, by simp [hy], e⟩
theorem far_of_names {l : List XCls} {up : List (List Nat)} (hg : growL l l = some up) {x z : Bs} {i : Nat} (hx : placeL l x = some i) (h : NFar l x z) : ∃ k, placeL l z = some k /\ (z = x \/ Far up i k) := by
 refine NFar.ind (C := fun z => ∃ k, placeL l z = some k /\ (z = x \/ Far up i k)) (l := l) (x := x) ⟨i, hx, .inl rfl⟩ (fun _ s ih => ?_) h; obtain ⟨k, hk, hf⟩ := ih; obtain ⟨k', c, h1, h2, h3⟩ := s; rw [hk] at h1; cases h1; obtain ⟨u, hu, huc⟩ := growL_at hg h2; obtain ⟨j, hj, e⟩ := (ups_names huc).1 _ h3; have st : Step up k j := ⟨u, hu, hj⟩; refine ⟨j, e, .inr ?_⟩
 rcases hf with rfl | hf
 · rw [hx] at hk; cases hk; exact .one st
 · exact .more hf st
theorem names_of_far {l : List XCls} {up : List (List Nat)} (ho : oneL l) (hg : growL l l = some up) {i j : Nat} (h : Far up i j) {c : XCls} (hc : l[i]? = some c) : ∃ d, l[j]? = some d /\ ∃ y ∈ aboveL c, NFar l y d.name := by
 have step : ∀ {i j : Nat} {c : XCls}, l[i]? = some c -> Step up i j -> ∃ d, l[j]? = some d /\ d.name ∈ aboveL c := by
  intro i j c hc ⟨u, hu, hj⟩; obtain ⟨u', hu', huc⟩ := growL_at hg hc; rw [hu] at hu'; cases hu'; obtain ⟨y, hy, e⟩ := (ups_names huc).2 j hj; obtain ⟨d, h1, h2, _⟩ := placeL_lt e; exact ⟨d, h1, h2 ▸ hy⟩
 revert c; refine Far.ind (C := fun i j => ∀ {c : XCls}, l[i]? = some c -> ∃ d, l[j]? = some d /\ ∃ y ∈ aboveL c, NFar l y d.name) (fun {_ _} s {c} hc => ?_) (fun {_ _ _} _ s ih {c} hc => ?_) h
 · obtain ⟨d, h1, h2⟩ := step hc s
   exact ⟨d, h1, _, h2, .refl _⟩
 · obtain ⟨d, h1, y, hy, hf⟩ := ih hc
   obtain ⟨d', h1', h2'⟩ := step h1 s; exact ⟨d', h1', y, hy, .more hf ⟨_, d, ho _ _ h1, h1, h2'⟩⟩
theorem ring_names {l : List XCls} {up : List (List Nat)} (ho : oneL l) (hg : growL l l = some up) : RingN l ↔ Ring up := by
 constructor
 · rintro ⟨c, hc, y, hy, hf⟩
   obtain ⟨i, hi⟩ := List.getElem?_of_mem hc; obtain ⟨u, hu, huc⟩ := growL_at hg hi; obtain ⟨j, hj, e⟩ := (ups_names huc).1 y hy; have st : Step up i j := ⟨u, hu, hj⟩; obtain ⟨k, hk, hf⟩ := far_of_names hg e hf; rw [ho i c hi] at hk; cases hk
   rcases hf with hf | hf
   · rw [<- hf, ho i c hi] at e; cases e; exact ⟨i, .one st⟩
   · exact ⟨i, (Far.one st).trans hf⟩
 · rintro ⟨i, hf⟩
   have hlt : ∃ c, l[i]? = some c := by
    have key : ∀ {i j : Nat}, Far up i j -> i < up.length := by
     intro i j h; exact Far.ind (C := fun i _ => i < up.length) (fun ⟨u, hu, _⟩ => (List.getElem?_eq_some_iff.1 hu).1) (fun _ _ ih => ih) h
    have := key hf; rw [growL_len hg] at this; exact ⟨_, List.getElem?_eq_getElem this⟩
   obtain ⟨c, hc⟩ := hlt; obtain ⟨d, hd, y, hy, hn⟩ := names_of_far ho hg hf hc; rw [hc] at hd; cases hd; exact ⟨c, List.mem_of_getElem? hc, y, hy, hn⟩
end Hr
end Go.Proofs.YtbbbnciejmdpfabGreatDoor

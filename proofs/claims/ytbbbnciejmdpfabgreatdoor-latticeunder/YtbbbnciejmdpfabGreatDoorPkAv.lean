/- What the laws of this seat lean on: 1 texts. -/
import Derived.Test.YtbbbnciejmdpfabGreatDoorPkAj
import Derived.Test.YtbbbnciejmdpfabGreatDoorPkAu
set_option maxRecDepth 100000
set_option maxHeartbeats 64000000
set_option linter.unusedVariables false
set_option linter.unusedSimpArgs false
namespace Go.Proofs.YtbbbnciejmdpfabGreatDoor
namespace Ly
open Pp Hr
def dC : XCls := plain [] []
def clP (l : List XCls) (k : Nat) : XCls := (l[k]?).getD dC
def supP (l : List XCls) (k : Nat) : Option Nat := placeL l (clP l k).super
def ifsP (l : List XCls) (k : Nat) : List Nat := (clP l k).ifaces.filterMap (placeL l)
def rkP (up : List (List Nat)) (k : Nat) : Nat := ((List.range up.length).filter (farB up k)).length
def pnet (l : List XCls) (up : List (List Nat)) : Net := ⟨fun k => k < l.length, clP l, supP l, ifsP l, rkP up⟩
theorem filter_le {p q : Nat -> Bool} : ∀ {l : List Nat}, (∀ x ∈ l, p x = true -> q x = true) -> (l.filter p).length <= (l.filter q).length
 | [], _ => Nat.le_refl _
 | a :: l, h => by
   have ih := filter_le (l := l) fun x hx => h x (List.mem_cons_of_mem _ hx); by_cases hp : p a = true
   · rw [List.filter_cons_of_pos hp, List.filter_cons_of_pos (h a (by simp) hp)]
     simpa using ih
   · rw [List.filter_cons_of_neg hp]
     by_cases hq : q a = true
     · rw [List.filter_cons_of_pos hq]; simp; omega
     · rw [List.filter_cons_of_neg hq]; exact ih
theorem filter_lt {p q : Nat -> Bool} {a : Nat} (h1 : ¬ p a = true) (h2 : q a = true) : ∀ {l : List Nat}, (∀ x ∈ l, p x = true -> q x = true) -> a ∈ l -> (l.filter p).length < (l.filter q).length
 | [], _, h => by cases h
 | b :: l, h, hm => by
   by_cases hb : b = a
   · subst hb
     rw [List.filter_cons_of_neg h1, List.filter_cons_of_pos h2]; have := filter_le (p := p) (q := q) (l := l) fun x hx => h x (List.mem_cons_of_mem _ hx); simp; omega
   · have ih := filter_lt h1 h2 (l := l) (fun x hx => h x (List.mem_cons_of_mem _ hx)) (by
      rcases List.mem_cons.1 hm with e | e
      · exact absurd e.symm hb
      · exact e)
     by_cases hp : p b = true
     · rw [List.filter_cons_of_pos hp, List.filter_cons_of_pos (h b (by simp) hp)]
       simpa using ih
     · rw [List.filter_cons_of_neg hp]
       by_cases hq : q b = true
       · rw [List.filter_cons_of_pos hq]; simp; omega
       · rw [List.filter_cons_of_neg hq]; exact ih
theorem rk_lt {l : List XCls} {up : List (List Nat)} (hg : growL l l = some up) (hr : ¬ Ring up) {i j : Nat} (h : Step up i j) : rkP up j < rkP up i := by
 have hl := grow_low hg
 have hj : j < up.length := by
  obtain ⟨u, hu, hj⟩ := h; exact hl u (List.mem_of_getElem? hu) j hj
 refine filter_lt (a := j) (fun hf => hr ⟨j, (farB_iff hl j j).1 hf⟩) ((farB_iff hl i j).2 (.one h)) (fun x _ hx => (farB_iff hl i x).2 ((Far.one h).trans ((farB_iff hl j x).1 hx))) (List.mem_range.2 hj)
theorem fresh_ne {s : Bs} (h : freshB s = true) : s ≠ [] := by
 rintro rfl; revert h
 decide
theorem prog_all {cs : List XCls} (h : progB cs = true) {c : XCls} (hc : c ∈ cs) : clsB c = true := (eachB_iff cs 10 clsB).1 h |>.2 c hc
theorem cls_parts {c : XCls} (h : clsB c = true) : freshB c.name = true /\ (c.super = [] \/ c.iface = false /\ freshB c.super = true) /\ c.ifaces.length <= 4 /\ c.fields.length <= 6 /\ c.methods.length <= 6 /\ (∀ f ∈ c.fields, fldB f = true) /\ (∀ m ∈ c.methods, mthB m = true) := by
 simp only [clsB, Bool.and_eq_true, eachB_iff, supB, Bool.or_eq_true, beq_iff_eq, Bool.not_eq_true'] at h; obtain ⟨h1, h2, h3, h4, h5⟩ := h; exact ⟨h1, h2, h3.1, h4.1, h5.1, h4.2, h5.2⟩
theorem all_facts {cs : List XCls} (h : progB cs = true) {k : Nat} {c : XCls} (hc : (allL cs)[k]? = some c) : c.name ≠ [] /\ (c.iface = true -> c.super = []) /\ c.ifaces.length <= 4 /\ c.fields.length <= 6 /\ c.methods.length <= 6 := by
 rcases List.mem_append.1 (List.mem_of_getElem? hc) with hm | hm
 · revert c
   have : ∀ c ∈ base, c.name ≠ [] /\ (c.iface = true -> c.super = []) /\ c.ifaces.length <= 4 /\ c.fields.length <= 6 /\ c.methods.length <= 6 := by decide
   intro c _ hm; exact this c hm
 · obtain ⟨h1, h2, h3, h4, h5, _⟩ := cls_parts (prog_all h hm)
   refine ⟨fresh_ne h1, fun hi => ?_, h3, h4, h5⟩
   rcases h2 with h2 | h2
   · exact h2
   · rw [hi] at h2; cases h2.1
theorem clP_at {l : List XCls} {k : Nat} {c : XCls} (h : l[k]? = some c) : clP l k = c := by unfold clP; rw [h]; rfl
theorem at_of {l : List XCls} {k : Nat} (h : k < l.length) : l[k]? = some (clP l k) := by unfold clP; rw [List.getElem?_eq_getElem h]; rfl
theorem place_nil {cs : List XCls} (h : progB cs = true) : placeL (allL cs) [] = none := placeL_none.2 fun j d hd => (all_facts h hd).1
theorem sup_step {cs : List XCls} {up : List (List Nat)} (he : errL cs = 0) (hg : growL (allL cs) (allL cs) = some up) {k s : Nat} (hk : k < (allL cs).length) (hs : supP (allL cs) k = some s) : superL (clP (allL cs) k) = some (clP (allL cs) k).super /\ Step up k s /\ s < (allL cs).length /\ (clP (allL cs) s).iface = false := by
 obtain ⟨hp, ho, _⟩ := err_zero he; have hc := at_of hk
 have hne : (clP (allL cs) k).super ≠ [] := by
  intro h; unfold supP at hs; rw [h, place_nil hp] at hs; cases hs
 have hsu : superL (clP (allL cs) k) = some (clP (allL cs) k).super := by
  unfold superL; rw [if_neg, if_neg hne]; rintro (h | h)
  · exact hne ((all_facts hp hc).2.1 h)
  · have h0 := ho k _ hc
    rw [h] at h0
    have : k = 0 := by
     have h1 : placeL (allL cs) objN = some 0 := rfl; rw [h1] at h0; injection h0 with h0; exact h0.symm
    subst this; exact hne rfl
 obtain ⟨q, d, h1, h2, h3, h4, h5, h6⟩ := super_step hg hc hsu; unfold supP at hs; rw [h1] at hs; injection hs with hs; subst hs; exact ⟨hsu, h5, h6, by rw [clP_at h2]; exact h4⟩
theorem sup_none {cs : List XCls} {up : List (List Nat)} (he : errL cs = 0) (hg : growL (allL cs) (allL cs) = some up) {k : Nat} (hk : k < (allL cs).length) (hs : supP (allL cs) k = none) : (clP (allL cs) k).super = [] := by
 obtain ⟨hp, ho, _⟩ := err_zero he; have hc := at_of hk; by_cases hi : (clP (allL cs) k).iface = true
 · exact (all_facts hp hc).2.1 hi
 by_cases hn : (clP (allL cs) k).name = objN
 · have h0 := ho k _ hc
   rw [hn] at h0
   have : k = 0 := by
    have h1 : placeL (allL cs) objN = some 0 := rfl; rw [h1] at h0; injection h0 with h0; exact h0.symm
   subst this
   rfl
 by_cases hne : (clP (allL cs) k).super = []
 · exact hne
 have hsu : superL (clP (allL cs) k) = some (clP (allL cs) k).super := by
  unfold superL; rw [if_neg, if_neg hne]; rintro (h | h)
  · exact hi h
  · exact hn h
 obtain ⟨q, d, h1, _⟩ := super_step hg hc hsu; unfold supP at hs; rw [h1] at hs; cases hs
theorem ifs_step {cs : List XCls} {up : List (List Nat)} (hg : growL (allL cs) (allL cs) = some up) {k i : Nat} (hk : k < (allL cs).length) (hi : i ∈ ifsP (allL cs) k) : Step up k i /\ i < (allL cs).length := by
 have hc := at_of hk; obtain ⟨u, hu, huc⟩ := growL_at hg hc; obtain ⟨y, hy, hpy⟩ := List.mem_filterMap.1 hi; obtain ⟨j, hj, e⟩ := (ups_names huc).1 y (by unfold aboveL; exact List.mem_append.2 (.inr hy))
 rw [hpy] at e; injection e with e; subst e; exact ⟨⟨u, hu, hj⟩, growL_lt hg u (List.mem_of_getElem? hu) i hj⟩
theorem ifs_all {cs : List XCls} {up : List (List Nat)} (hg : growL (allL cs) (allL cs) = some up) {k : Nat} (hk : k < (allL cs).length) {y : Bs} (hy : y ∈ (clP (allL cs) k).ifaces) : ∃ j, placeL (allL cs) y = some j /\ j < (allL cs).length := by
 obtain ⟨u, hu, huc⟩ := growL_at hg (at_of hk); obtain ⟨j, hj, e⟩ := (ups_names huc).1 y (by unfold aboveL; exact List.mem_append.2 (.inr hy))
 exact ⟨j, e, growL_lt hg u (List.mem_of_getElem? hu) j hj⟩
theorem pnet_good {cs : List XCls} {up : List (List Nat)} (he : errL cs = 0) (hg : growL (allL cs) (allL cs) = some up) : (pnet (allL cs) up).Good := by
 have hr : ¬ Ring up := by
  obtain ⟨_, _, up', h1, h2⟩ := err_zero he; rw [hg] at h1; injection h1 with h1; subst h1; exact h2
 refine ⟨fun b s hb hs => ?_, fun b i hb hi => ?_⟩
 · obtain ⟨_, h1, h2, _⟩ := sup_step he hg hb hs
   exact ⟨h2, rk_lt hg hr h1⟩
 · obtain ⟨h1, h2⟩ := ifs_step hg hb hi
   exact ⟨h2, rk_lt hg hr h1⟩
theorem rk_le (up : List (List Nat)) (k : Nat) : rkP up k <= up.length := by
 unfold rkP; have := List.length_filter_le (farB up k) (List.range up.length)
 simpa using this
theorem slF_len {N : Net} (h : ∀ b, N.T b -> (N.cl b).fields.length <= 6) (hG : N.Good) : ∀ n b, N.T b -> (N.slF n b).length <= n * 6
 | 0, _, _ => by simp [Net.slF]
 | n + 1, b, hb => by
   unfold Net.slF; have h1 := Pp.ownL_len (N.cl b) false (N.cl b).fields; have h2 := h b hb; cases hs : N.sup b with
   | none => show (Pp.ownL _ _ _).length <= _; omega
   | some s =>
     have h3 := slF_len h hG n s (hG.sup b s hb hs).1; show (N.slF n s ++ Pp.ownL (N.cl b) false (N.cl b).fields).length <= _; rw [List.length_append]; omega
theorem mtF_len {N : Net} (h : ∀ b, N.T b -> (N.cl b).methods.length <= 6) (hG : N.Good) : ∀ n b, N.T b -> (N.mtF n b).length <= n * 6
 | 0, _, _ => by simp [Net.mtF]
 | n + 1, b, hb => by
   unfold Net.mtF; have h1 : (Net.ownM (N.cl b)).length = (N.cl b).methods.length := by unfold Net.ownM; simp
   have h2 := h b hb; cases hs : N.sup b with
   | none => show (Net.ownM _).length <= _; omega
   | some s =>
     have h3 := mtF_len h hG n s (hG.sup b s hb hs).1; show (Net.ownM (N.cl b) ++ N.mtF n s).length <= _; rw [List.length_append]; omega
theorem look_nodup (acc : List Nat) : ∀ more : List Nat, acc.Nodup -> (lookL acc more).Nodup := by
 intro more
 induction more generalizing acc with
 | nil => intro h; exact h
 | cons b r ih =>
   intro h; have h2 : lookL acc (b :: r) = lookL (if b ∈ acc then acc else acc ++ [b]) r := rfl
   rw [h2]; refine ih _ ?_
   split
   · exact h
   · rename_i hb
     rw [List.nodup_append]; refine ⟨h, by simp, fun x hx y hy => ?_⟩
     simp at hy; subst hy; rintro rfl; exact hb hx
theorem looks_nodup {g : Nat -> List Nat} : ∀ (l : List Nat) (a : List Nat), a.Nodup -> (l.foldl (fun a i => lookL a (g i)) a).Nodup
 | [], _, h => h
 | i :: l, a, h => by rw [List.foldl_cons]; exact looks_nodup l _ (look_nodup a (g i) h)
theorem ab0_nodup (N : Net) (b : Nat) (l : List Nat) : (N.ab0 b l).Nodup := by
 unfold Net.ab0; refine looks_nodup l _ ?_
 split
 · simp
 · simp
theorem ab_nodup {N : Net} (hG : N.Good) (b : Nat) (hb : N.T b) : (N.ab b).Nodup := by
 rw [hG.ab b hb]; cases N.sup b with
 | none => exact ab0_nodup N b _
 | some s => exact look_nodup _ _ (ab0_nodup N b _)
theorem pnet_small {cs : List XCls} {up : List (List Nat)} (he : errL cs = 0) (hg : growL (allL cs) (allL cs) = some up) : (pnet (allL cs) up).Small := by
 have hp := (err_zero he).1; have hG := pnet_good he hg; have hf : ∀ b, (pnet (allL cs) up).T b -> _ := fun b hb => all_facts hp (at_of hb)
 have hlen : (allL cs).length <= 18 := by
  have h1 := ((eachB_iff cs 10 clsB).1 hp).1; have h2 := all_len cs; have h3 : base.length = 8 := rfl; omega
 have hul : up.length <= 18 := by rw [growL_len hg]; exact hlen
 have hab : ∀ l : List Nat, l.Nodup -> (∀ z ∈ l, z < (allL cs).length) -> l.length <= 400 := fun l h1 h2 => by
  have := nodup_len h1 (m := List.range (allL cs).length) fun x hx => List.mem_range.2 (h2 x hx); rw [List.length_range] at this; omega
 refine ⟨fun b hb => ?_, fun b hb => ?_, fun b hb => ?_, fun b hb => ?_, fun b hb => ?_, fun b hb => ?_, fun b l hb hl => ?_⟩
 · exact Nat.le_trans (hf b hb).2.2.2.1 (by decide)
 · exact Nat.le_trans (hf b hb).2.2.2.2 (by decide)
 · refine Nat.le_trans (List.length_filterMap_le _ _) (Nat.le_trans (hf b hb).2.2.1 (by decide))
 · have := slF_len (N := pnet (allL cs) up) (fun b hb => (hf b hb).2.2.2.1) hG (rkP up b + 1) b hb
   have h2 := rk_le up b; show ((pnet (allL cs) up).slF (rkP up b + 1) b).length <= _; omega
 · have := mtF_len (N := pnet (allL cs) up) (fun b hb => (hf b hb).2.2.2.2) hG (rkP up b + 1) b hb
   have h2 := rk_le up b; show ((pnet (allL cs) up).mtF (rkP up b + 1) b).length <= _; omega
 · exact hab _ (ab_nodup hG b hb) fun z hz => ((hG.mem_ab _ b hb (Nat.lt_succ_self _)).2 z hz).1
 · exact hab _ (ab0_nodup _ b l) fun z hz => ((hG.mem_ab _ b hb (Nat.lt_succ_self _)).1 l hl z hz).1
structure Img (P N : Net) (f : Nat -> Nat) : Prop where
 T : ∀ b, N.T b ↔ ∃ k, P.T k /\ f k = b
 inj : ∀ i j, P.T i -> P.T j -> f i = f j -> i = j
 cl : ∀ k, P.T k -> N.cl (f k) = P.cl k
 sup : ∀ k, P.T k -> N.sup (f k) = (P.sup k).map f
 ifs : ∀ k, P.T k -> N.ifs (f k) = (P.ifs k).map f
 rk : ∀ k, P.T k -> N.rk (f k) = P.rk k
section
variable {P N : Net} {f : Nat -> Nat}
theorem Img.mk_T (h : Img P N f) {k : Nat} (hk : P.T k) : N.T (f k) := (h.T _).2 ⟨k, hk, rfl⟩
theorem Img.good (h : Img P N f) (hG : P.Good) : N.Good := by
 refine ⟨fun b s hb hs => ?_, fun b i hb hi => ?_⟩
 · obtain ⟨k, hk, rfl⟩ := (h.T b).1 hb
   rw [h.sup k hk] at hs; obtain ⟨q, hq, rfl⟩ := Option.map_eq_some_iff.1 hs; obtain ⟨h1, h2⟩ := hG.sup k q hk hq; exact ⟨h.mk_T h1, by rw [h.rk k hk, h.rk q h1]; exact h2⟩
 · obtain ⟨k, hk, rfl⟩ := (h.T b).1 hb
   rw [h.ifs k hk] at hi; obtain ⟨q, hq, rfl⟩ := List.mem_map.1 hi; obtain ⟨h1, h2⟩ := hG.ifs k q hk hq; exact ⟨h.mk_T h1, by rw [h.rk k hk, h.rk q h1]; exact h2⟩
theorem map_look (h : ∀ i j, P.T i -> P.T j -> f i = f j -> i = j) : ∀ (m a : List Nat), (∀ x ∈ a, P.T x) -> (∀ x ∈ m, P.T x) -> lookL (a.map f) (m.map f) = (lookL a m).map f
 | [], _, _, _ => rfl
 | b :: m, a, ha, hm => by
   show lookL (if f b ∈ a.map f then a.map f else a.map f ++ [f b]) (m.map f) = (lookL (if b ∈ a then a else a ++ [b]) m).map f
   by_cases hb : b ∈ a
   · rw [if_pos hb, if_pos (List.mem_map.2 ⟨b, hb, rfl⟩)]
     exact map_look h m a ha fun x hx => hm x (List.mem_cons_of_mem _ hx)
   · rw [if_neg hb, if_neg]
     · have h1 : a.map f ++ [f b] = (a ++ [b]).map f := by simp
       rw [h1]; refine map_look h m (a ++ [b]) (fun x hx => ?_) fun x hx => hm x (List.mem_cons_of_mem _ hx)
       rcases List.mem_append.1 hx with hx | hx
       · exact ha x hx
       · simp at hx; subst hx; exact hm _ (by simp)
     · intro hx
       obtain ⟨q, hq, e⟩ := List.mem_map.1 hx; exact hb ((h q b (ha q hq) (hm b (by simp)) e) ▸ hq)
theorem map_looks (h : ∀ i j, P.T i -> P.T j -> f i = f j -> i = j) {g g' : Nat -> List Nat} : ∀ (l a : List Nat), (∀ x ∈ a, P.T x) -> (∀ i ∈ l, g' (f i) = (g i).map f /\ ∀ x ∈ g i, P.T x) -> (l.map f).foldl (fun a i => lookL a (g' i)) (a.map f) = (l.foldl (fun a i => lookL a (g i)) a).map f
 | [], _, _, _ => rfl
 | i :: l, a, ha, hl => by
   rw [List.map_cons, List.foldl_cons, List.foldl_cons, (hl i (by simp)).1, map_look h (g i) a ha (hl i (by simp)).2]
   refine map_looks h l _ (fun x hx => ?_) fun j hj => hl j (List.mem_cons_of_mem _ hj)
   rcases mem_lookL _ _ hx with hx | hx
   · exact ha x hx
   · exact (hl i (by simp)).2 x hx
theorem Img.sl (h : Img P N f) (hG : P.Good) : ∀ n k, P.T k -> N.slF n (f k) = P.slF n k
 | 0, _, _ => rfl
 | n + 1, k, hk => by
   unfold Net.slF; rw [h.sup k hk, h.cl k hk]; cases hs : P.sup k with
   | none => rfl
   | some s => show N.slF n (f s) ++ _ = _; rw [Img.sl h hG n s (hG.sup k s hk hs).1]
theorem Img.mt (h : Img P N f) (hG : P.Good) : ∀ n k, P.T k -> N.mtF n (f k) = P.mtF n k
 | 0, _, _ => rfl
 | n + 1, k, hk => by
   unfold Net.mtF; rw [h.sup k hk, h.cl k hk]; cases hs : P.sup k with
   | none => rfl
   | some s => show _ ++ N.mtF n (f s) = _; rw [Img.mt h hG n s (hG.sup k s hk hs).1]
theorem abF_T (hG : P.Good) : ∀ n k, P.T k -> ∀ z ∈ P.abF n k, P.T z
 | 0, _, _, z, hz => by cases hz
 | n + 1, k, hk, z, hz => by
   unfold Net.abF at hz
   have h0 : ∀ z ∈ (P.ifs k).foldl (fun a i => lookL a (P.abF n i)) (if (P.cl k).iface then [k] else []), P.T z := by
    intro z hz
    rcases mem_looks hz with hz | ⟨i, h1, h2⟩
    · split at hz
      · simp at hz; subst hz; exact hk
      · cases hz
    · exact abF_T hG n i (hG.ifs k i hk h1).1 z h2
   cases hs : P.sup k with
   | none => rw [hs] at hz; exact h0 z hz
   | some s =>
     rw [hs] at hz
     rcases mem_lookL _ _ hz with hz | hz
     · exact h0 z hz
     · exact abF_T hG n s (hG.sup k s hk hs).1 z hz
theorem Img.abF (h : Img P N f) (hG : P.Good) : ∀ n k, P.T k -> N.abF n (f k) = (P.abF n k).map f
 | 0, _, _ => rfl
 | n + 1, k, hk => by
   have h0 : (N.ifs (f k)).foldl (fun a i => lookL a (N.abF n i)) (if (N.cl (f k)).iface then [f k] else []) = ((P.ifs k).foldl (fun a i => lookL a (P.abF n i)) (if (P.cl k).iface then [k] else [])).map f := by
    rw [h.ifs k hk, h.cl k hk]; have h1 : (if (P.cl k).iface = true then [f k] else []) = (if (P.cl k).iface = true then [k] else []).map f := by split <;> rfl
    rw [h1]; refine map_looks h.inj (P.ifs k) _ (fun x hx => ?_) fun i hi => ⟨Img.abF h hG n i (hG.ifs k i hk hi).1, abF_T hG n i (hG.ifs k i hk hi).1⟩
    split at hx
    · simp at hx; subst hx; exact hk
    · cases hx
   unfold Net.abF; rw [h.sup k hk]; cases hs : P.sup k with
   | none => exact h0
   | some s =>
     show lookL _ (N.abF n (f s)) = (lookL _ (P.abF n s)).map f; have hsT := (hG.sup k s hk hs).1; rw [h0, Img.abF h hG n s hsT]; refine map_look h.inj _ _ (fun z hz => ?_) (abF_T hG n s hsT)
     rcases mem_looks hz with hz | ⟨i, h1, h2⟩
     · split at hz
       · simp at hz; subst hz; exact hk
       · cases hz
     · exact abF_T hG n i (hG.ifs k i hk h1).1 z h2
theorem Img.ab (h : Img P N f) (hG : P.Good) (k : Nat) (hk : P.T k) : N.ab (f k) = (P.ab k).map f := by
 show N.abF (N.rk (f k) + 1) (f k) = _; rw [h.rk k hk, h.abF hG _ k hk]
 rfl
theorem Img.sl' (h : Img P N f) (hG : P.Good) (k : Nat) (hk : P.T k) : N.sl (f k) = P.sl k := by
 show N.slF (N.rk (f k) + 1) (f k) = _; rw [h.rk k hk, h.sl hG _ k hk]
 rfl
theorem Img.mt' (h : Img P N f) (hG : P.Good) (k : Nat) (hk : P.T k) : N.mt (f k) = P.mt k := by
 show N.mtF (N.rk (f k) + 1) (f k) = _; rw [h.rk k hk, h.mt hG _ k hk]
 rfl
theorem Img.ab0 (h : Img P N f) (hG : P.Good) (k : Nat) (hk : P.T k) (l : List Nat) (hl : ∀ i ∈ l, i ∈ P.ifs k) : N.ab0 (f k) (l.map f) = (P.ab0 k l).map f := by
 unfold Net.ab0; rw [h.cl k hk]; have h1 : (if (P.cl k).iface = true then [f k] else []) = (if (P.cl k).iface = true then [k] else []).map f := by split <;> rfl
 rw [h1]; refine map_looks h.inj l _ (fun x hx => ?_) fun i hi => ⟨h.ab hG i (hG.ifs k i hk (hl i hi)).1, abF_T hG _ i (hG.ifs k i hk (hl i hi)).1⟩
 split at hx
 · simp at hx; subst hx; exact hk
 · cases hx
theorem sub_map : ∀ {l m : List Nat}, (∀ i ∈ l, i ∈ m.map f) -> ∃ l' : List Nat, l = l'.map f /\ ∀ i ∈ l', i ∈ m
 | [], _, _ => ⟨[], rfl, by simp⟩
 | a :: l, m, h => by
   obtain ⟨l', h1, h2⟩ := sub_map (l := l) (m := m) fun i hi => h i (List.mem_cons_of_mem _ hi); obtain ⟨q, hq, rfl⟩ := List.mem_map.1 (h a (by simp))
   exact ⟨q :: l', by rw [h1]; rfl, fun i hi => by
    rcases List.mem_cons.1 hi with rfl | hi
    · exact hq
    · exact h2 i hi⟩
theorem Img.small (h : Img P N f) (hG : P.Good) (hS : P.Small) : N.Small := by
 refine ⟨fun b hb => ?_, fun b hb => ?_, fun b hb => ?_, fun b hb => ?_, fun b hb => ?_, fun b hb => ?_, fun b l hb hl => ?_⟩ <;> obtain ⟨k, hk, rfl⟩ := (h.T b).1 hb
 · rw [h.cl k hk]; exact hS.flds k hk
 · rw [h.cl k hk]; exact hS.mths k hk
 · rw [h.ifs k hk, List.length_map]; exact hS.ifs k hk
 · rw [h.sl' hG k hk]; exact hS.sl k hk
 · rw [h.mt' hG k hk]; exact hS.mt k hk
 · rw [h.ab hG k hk, List.length_map]; exact hS.ab k hk
 · rw [h.ifs k hk] at hl
   obtain ⟨l', rfl, hl'⟩ := sub_map hl; rw [h.ab0 hG k hk l' hl', List.length_map]; exact hS.ab0 k l' hk hl'
end
def bnet (l : List XCls) (up : List (List Nat)) (bs : List Nat) : Net :=
 ⟨fun b => b ∈ bs, fun b => clP l (bs.idxOf b), fun b => (supP l (bs.idxOf b)).map (bs.getD · 0), fun b => (ifsP l (bs.idxOf b)).map (bs.getD · 0), fun b => rkP up (bs.idxOf b)⟩
theorem idx_get {bs : List Nat} (hn : bs.Nodup) {k : Nat} (hk : k < bs.length) : bs.idxOf (bs.getD k 0) = k := by
 have h1 : bs.getD k 0 = bs[k] := by simp [List.getD, List.getElem?_eq_getElem hk]
 rw [h1]; exact hn.idxOf_getElem k hk
theorem bnet_img {l : List XCls} (up : List (List Nat)) {bs : List Nat} (hn : bs.Nodup) (hl : bs.length = l.length) : Img (pnet l up) (bnet l up bs) (bs.getD · 0) := by
 refine ⟨fun b => ⟨fun hb => ?_, ?_⟩, fun i j hi hj e => ?_, fun k hk => ?_, fun k hk => ?_, fun k hk => ?_, fun k hk => ?_⟩
 · have h1 : bs.idxOf b < bs.length := List.idxOf_lt_length_iff.2 hb
   refine ⟨bs.idxOf b, by show bs.idxOf b < l.length; rw [<- hl]; exact h1, ?_⟩
   show bs.getD (bs.idxOf b) 0 = b; simp [List.getD, List.getElem?_eq_getElem h1]
 · rintro ⟨k, hk, rfl⟩
   have hk' : k < bs.length := by rw [hl]; exact hk
   show bs.getD k 0 ∈ bs; have h1 : bs.getD k 0 = bs[k] := by simp [List.getD, List.getElem?_eq_getElem hk']
   rw [h1]; exact List.getElem_mem hk'
 · have hi' : i < bs.length := by rw [hl]; exact hi
   have hj' : j < bs.length := by rw [hl]; exact hj
   have := congrArg bs.idxOf e
   rwa [idx_get hn hi', idx_get hn hj'] at this
 all_goals
  have hk' : k < bs.length := by rw [hl]; exact hk
  show _ = _; simp only [bnet, pnet, idx_get hn hk']
end Ly
end Go.Proofs.YtbbbnciejmdpfabGreatDoor

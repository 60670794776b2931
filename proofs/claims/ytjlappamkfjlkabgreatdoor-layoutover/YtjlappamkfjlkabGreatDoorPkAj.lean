/- What the laws of this seat lean on: 4 texts. -/
import Derived.Test.YtjlappamkfjlkabGreatDoorPkAd
import Derived.Test.YtjlappamkfjlkabGreatDoorPkAi
import Derived.Test.YtjlappamkfjlkabGreatDoorPkAg
import Derived.Test.YtjlappamkfjlkabGreatDoorPkAe
set_option maxRecDepth 100000
set_option maxHeartbeats 64000000
set_option linter.unusedVariables false
set_option linter.unusedSimpArgs false
namespace Go.Proofs.YtjlappamkfjlkabGreatDoor
namespace Ly
open Pp Hr
def dC : XCls := plain [] []
def clP (l : List XCls) (k : Nat) : XCls := (l[k]?).getD dC
def supP (l : List XCls) (k : Nat) : Option Nat := placeL l (clP l k).super
def ifsP (l : List XCls) (k : Nat) : List Nat := (clP l k).ifaces.filterMap (placeL l)
def rkP (up : List (List Nat)) (k : Nat) : Nat := ((List.range up.length).filter (farB up k)).length
def pnet (l : List XCls) (up : List (List Nat)) : Net := ⟨fun k => k < l.length, clP l, supP l, ifsP l, rkP up⟩
theorem filter_le {p q : Nat -> Bool} : ∀ {l : List Nat}, (∀ x ∈ l, p x = true -> q x = true) -> (l.filter p).length <= (l.filter q).length
 | [], _ => Nat.le_refl _
 | a :: l, h => by
   have ih := filter_le (l := l) fun x hx => h x (List.mem_cons_of_mem _ hx); by_cases hp : p a = true
   · rw [List.filter_cons_of_pos hp, List.filter_cons_of_pos (h a (by simp) hp)]
     simpa using ih
   · rw [List.filter_cons_of_neg hp]
     by_cases hq : q a = true
     · rw [List.filter_cons_of_pos hq]; simp; omega
     · rw [List.filter_cons_of_neg hq]; exact ih
theorem filter_lt {p q : Nat -> Bool} {a : Nat} (h1 : ¬ p a = true) (h2 : q a = true) : ∀ {l : List Nat}, (∀ x ∈ l, p x = true -> q x = true) -> a ∈ l -> (l.filter p).length < (l.filter q).length
 | [], _, h => by cases h
 | b :: l, h, hm => by
   by_cases hb : b = a
   · subst hb
     rw [List.filter_cons_of_neg h1, List.filter_cons_of_pos h2]; have := filter_le (p := p) (q := q) (l := l) fun x hx => h x (List.mem_cons_of_mem _ hx); simp; omega
   · have ih := filter_lt h1 h2 (l := l) (fun x hx => h x (List.mem_cons_of_mem _ hx)) (by
      rcases List.mem_cons.1 hm with e | e
      · exact absurd e.symm hb
      · exact e)
     by_cases hp : p b = true
     · rw [List.filter_cons_of_pos hp, List.filter_cons_of_pos (h b (by simp) hp)]
       simpa using ih
     · rw [List.filter_cons_of_neg hp]
       by_cases hq : q b = true
       · rw [List.filter_cons_of_pos hq]; simp; omega
       · rw [List.filter_cons_of_neg hq]; exact ih
theorem rk_lt {l : List XCls} {up : List (List Nat)} (hg : growL l l = some up) (hr : ¬ Ring up) {i j : Nat} (h : Step up i j) : rkP up j < rkP up i := by
 have hl := grow_low hg
 have hj : j < up.length := by
  obtain ⟨u, hu, hj⟩ := h; exact hl u (List.mem_of_getElem? hu) j hj
 refine filter_lt (a := j) (fun hf => hr ⟨j, (farB_iff hl j j).1 hf⟩) ((farB_iff hl i j).2 (.one h)) (fun x _ hx => (farB_iff hl i x).2 ((Far.one h).trans ((farB_iff hl j x).1 hx))) (List.mem_range.2 hj)
theorem fresh_ne {s : Bs} (h : freshB s = true) : s ≠ [] := by
 rintro rfl; revert h
 decide
theorem prog_all {cs : List XCls} (h : progB cs = true) {c : XCls} (hc : c ∈ cs) : clsB c = true := (eachB_iff cs 10 clsB).1 h |>.2 c hc
theorem cls_parts {c : XCls} (h : clsB c = true) : freshB c.name = true /\ (c.super = [] \/ c.iface = false /\ freshB c.super = true) /\ c.ifaces.length <= 4 /\ c.fields.length <= 6 /\ c.methods.length <= 6 /\ (∀ f ∈ c.fields, fldB f = true) /\ (∀ m ∈ c.methods, mthB m = true) := by
 simp only [clsB, Bool.and_eq_true, eachB_iff, supB, Bool.or_eq_true, beq_iff_eq, Bool.not_eq_true'] at h; obtain ⟨h1, h2, h3, h4, h5⟩ := h; exact ⟨h1, h2, h3.1, h4.1, h5.1, h4.2, h5.2⟩
theorem all_facts {cs : List XCls} (h : progB cs = true) {k : Nat} {c : XCls} (hc : (allL cs)[k]? = some c) : c.name ≠ [] /\ (c.iface = true -> c.super = []) /\ c.ifaces.length <= 4 /\ c.fields.length <= 6 /\ c.methods.length <= 6 := by
 rcases List.mem_append.1 (List.mem_of_getElem? hc) with hm | hm
 · revert c
   have : ∀ c ∈ base, c.name ≠ [] /\ (c.iface = true -> c.super = []) /\ c.ifaces.length <= 4 /\ c.fields.length <= 6 /\ c.methods.length <= 6 := by decide
   intro c _ hm; exact this c hm
 · obtain ⟨h1, h2, h3, h4, h5, _⟩ := cls_parts (prog_all h hm)
   refine ⟨fresh_ne h1, fun hi => ?_, h3, h4, h5⟩
   rcases h2 with h2 | h2
   · exact h2
   · rw [hi] at h2; cases h2.1
theorem clP_at {l : List XCls} {k : Nat} {c : XCls} (h : l[k]? = some c) : clP l k = c := by unfold clP; rw [h]; rfl
theorem at_of {l : List XCls} {k : Nat} (h : k < l.length) : l[k]? = some (clP l k) := by unfold clP; rw [List.getElem?_eq_getElem h]; rfl
theorem place_nil {cs : List XCls} (h : progB cs = true) : placeL (allL cs) [] = none := placeL_none.2 fun j d hd => (all_facts h hd).1
theorem sup_step {cs : List XCls} {up : List (List Nat)} (he : errL cs = 0) (hg : growL (allL cs) (allL cs) = some up) {k s : Nat} (hk : k < (allL cs).length) (hs : supP (allL cs) k = some s) : superL (clP (allL cs) k) = some (clP (allL cs) k).super /\ Step up k s /\ s < (allL cs).length /\ (clP (allL cs) s).iface = false := by
 obtain ⟨hp, ho, _⟩ := err_zero he; have hc := at_of hk
 have hne : (clP (allL cs) k).super ≠ [] := by
  intro h; unfold supP at hs; rw [h, place_nil hp] at hs; cases hs
 have hsu : superL (clP (allL cs) k) = some (clP (allL cs) k).super := by
  unfold superL; rw [if_neg, if_neg hne]; rintro (h | h)
  · exact hne ((all_facts hp hc).2.1 h)
  · have h0 := ho k _ hc
    rw [h] at h0
    have : k = 0 := by
     have h1 : placeL (allL cs) objN = some 0 := rfl; rw [h1] at h0; injection h0 with h0; exact h0.symm
    subst this; exact hne rfl
 obtain ⟨q, d, h1, h2, h3, h4, h5, h6⟩ := super_step hg hc hsu; unfold supP at hs; rw [h1] at hs; injection hs with hs; subst hs; exact ⟨hsu, h5, h6, by rw [clP_at h2]; exact h4⟩
theorem ifs_step {cs : List XCls} {up : List (List Nat)} (hg : growL (allL cs) (allL cs) = some up) {k i : Nat} (hk : k < (allL cs).length) (hi : i ∈ ifsP (allL cs) k) : Step up k i /\ i < (allL cs).length := by
 have hc := at_of hk; obtain ⟨u, hu, huc⟩ := growL_at hg hc; obtain ⟨y, hy, hpy⟩ := List.mem_filterMap.1 hi; obtain ⟨j, hj, e⟩ := (ups_names huc).1 y (by unfold aboveL; exact List.mem_append.2 (.inr hy))
 rw [hpy] at e; injection e with e; subst e; exact ⟨⟨u, hu, hj⟩, growL_lt hg u (List.mem_of_getElem? hu) i hj⟩
theorem ifs_all {cs : List XCls} {up : List (List Nat)} (hg : growL (allL cs) (allL cs) = some up) {k : Nat} (hk : k < (allL cs).length) {y : Bs} (hy : y ∈ (clP (allL cs) k).ifaces) : ∃ j, placeL (allL cs) y = some j /\ j < (allL cs).length := by
 obtain ⟨u, hu, huc⟩ := growL_at hg (at_of hk); obtain ⟨j, hj, e⟩ := (ups_names huc).1 y (by unfold aboveL; exact List.mem_append.2 (.inr hy))
 exact ⟨j, e, growL_lt hg u (List.mem_of_getElem? hu) j hj⟩
theorem pnet_good {cs : List XCls} {up : List (List Nat)} (he : errL cs = 0) (hg : growL (allL cs) (allL cs) = some up) : (pnet (allL cs) up).Good := by
 have hr : ¬ Ring up := by
  obtain ⟨_, _, up', h1, h2⟩ := err_zero he; rw [hg] at h1; injection h1 with h1; subst h1; exact h2
 refine ⟨fun b s hb hs => ?_, fun b i hb hi => ?_⟩
 · obtain ⟨_, h1, h2, _⟩ := sup_step he hg hb hs
   exact ⟨h2, rk_lt hg hr h1⟩
 · obtain ⟨h1, h2⟩ := ifs_step hg hb hi
   exact ⟨h2, rk_lt hg hr h1⟩
theorem rk_le (up : List (List Nat)) (k : Nat) : rkP up k <= up.length := by
 unfold rkP; have := List.length_filter_le (farB up k) (List.range up.length)
 simpa using this
theorem slF_len {N : Net} (h : ∀ b, N.T b -> (N.cl b).fields.length <= 6) (hG : N.Good) : ∀ n b, N.T b -> (N.slF n b).length <= n * 6
 | 0, _, _ => by simp [Net.slF]
 | n + 1, b, hb => by
   unfold Net.slF; have h1 := Pp.ownL_len (N.cl b) false (N.cl b).fields; have h2 := h b hb; cases hs : N.sup b with
   | none => show (Pp.ownL _ _ _).length <= _; omega
   | some s =>
     have h3 := slF_len h hG n s (hG.sup b s hb hs).1; show (N.slF n s ++ Pp.ownL (N.cl b) false (N.cl b).fields).length <= _; rw [List.length_append]; omega
theorem mtF_len {N : Net} (h : ∀ b, N.T b -> (N.cl b).methods.length <= 6) (hG : N.Good) : ∀ n b, N.T b -> (N.mtF n b).length <= n * 6
 | 0, _, _ => by simp [Net.mtF]
 | n + 1, b, hb => by
   unfold Net.mtF; have h1 : (Net.ownM (N.cl b)).length = (N.cl b).methods.length := by unfold Net.ownM; simp
   have h2 := h b hb; cases hs : N.sup b with
   | none => show (Net.ownM _).length <= _; omega
   | some s =>
     have h3 := mtF_len h hG n s (hG.sup b s hb hs).1; show (Net.ownM (N.cl b) ++ N.mtF n s).length <= _; rw [List.length_append]; omega
theorem look_nodup (acc : List Nat) : ∀ more : List Nat, acc.Nodup -> (lookL acc more).Nodup := by
 intro more
 induction more generalizing acc with
 | nil => intro h; exact h
 | cons b r ih =>
   intro h; have h2 : lookL acc (b :: r) = lookL (if b ∈ acc then acc else acc ++ [b]) r := rfl
   rw [h2]; refine ih _ ?_
   split
   · exact h
   · rename_i hb
     rw [List.nodup_append]; refine ⟨h, by simp, fun x hx y hy => ?_⟩
     simp at hy; subst hy; rintro rfl; exact hb hx
theorem looks_nodup {g : Nat -> List Nat} : ∀ (l : List Nat) (a : List Nat), a.Nodup -> (l.foldl (fun a i => lookL a (g i)) a).Nodup
 | [], _, h => h
 | i :: l, a, h => by rw [List.foldl_cons]; exact looks_nodup l _ (look_nodup a (g i) h)
theorem ab0_nodup (N : Net) (b : Nat) (l : List Nat) : (N.ab0 b l).Nodup := by
 unfold Net.ab0; refine looks_nodup l _ ?_
 split
 · simp
 · simp
theorem ab_nodup {N : Net} (hG : N.Good) (b : Nat) (hb : N.T b) : (N.ab b).Nodup := by
 rw [hG.ab b hb]; cases N.sup b with
 | none => exact ab0_nodup N b _
 | some s => exact look_nodup _ _ (ab0_nodup N b _)
theorem pnet_small {cs : List XCls} {up : List (List Nat)} (he : errL cs = 0) (hg : growL (allL cs) (allL cs) = some up) : (pnet (allL cs) up).Small := by
 have hp := (err_zero he).1; have hG := pnet_good he hg; have hf : ∀ b, (pnet (allL cs) up).T b -> _ := fun b hb => all_facts hp (at_of hb)
 have hlen : (allL cs).length <= 18 := by
  have h1 := ((eachB_iff cs 10 clsB).1 hp).1; have h2 := all_len cs; have h3 : base.length = 8 := rfl; omega
 have hul : up.length <= 18 := by rw [growL_len hg]; exact hlen
 have hab : ∀ l : List Nat, l.Nodup -> (∀ z ∈ l, z < (allL cs).length) -> l.length <= 400 := fun l h1 h2 => by
  have := nodup_len h1 (m := List.range (allL cs).length) fun x hx => List.mem_range.2 (h2 x hx); rw [List.length_range] at this; omega
 refine ⟨fun b hb => ?_, fun b hb => ?_, fun b hb => ?_, fun b hb => ?_, fun b hb => ?_, fun b hb => ?_, fun b l hb hl => ?_⟩
 · exact Nat.le_trans (hf b hb).2.2.2.1 (by decide)
 · exact Nat.le_trans (hf b hb).2.2.2.2 (by decide)
 · refine Nat.le_trans (List.length_filterMap_le _ _) (Nat.le_trans (hf b hb).2.2.1 (by decide))
 · have := slF_len (N := pnet (allL cs) up) (fun b hb => (hf b hb).2.2.2.1) hG (rkP up b + 1) b hb
   have h2 := rk_le up b; show ((pnet (allL cs) up).slF (rkP up b + 1) b).length <= _; omega
 · have := mtF_len (N := pnet (allL cs) up) (fun b hb => (hf b hb).2.2.2.2) hG (rkP up b + 1) b hb
   have h2 := rk_le up b; show ((pnet (allL cs) up).mtF (rkP up b + 1) b).length <= _; omega
 · exact hab _ (ab_nodup hG b hb) fun z hz => ((hG.mem_ab _ b hb (Nat.lt_succ_self _)).2 z hz).1
 · exact hab _ (ab0_nodup _ b l) fun z hz => ((hG.mem_ab _ b hb (Nat.lt_succ_self _)).1 l hl z hz).1
structure Img (P N : Net) (f : Nat -> Nat) : Prop where
 T : ∀ b, N.T b ↔ ∃ k, P.T k /\ f k = b
 inj : ∀ i j, P.T i -> P.T j -> f i = f j -> i = j
 cl : ∀ k, P.T k -> N.cl (f k) = P.cl k
 sup : ∀ k, P.T k -> N.sup (f k) = (P.sup k).map f
 ifs : ∀ k, P.T k -> N.ifs (f k) = (P.ifs k).map f
 rk : ∀ k, P.T k -> N.rk (f k) = P.rk k
section
variable {P N : Net} {f : Nat -> Nat}
theorem Img.mk_T (h : Img P N f) {k : Nat} (hk : P.T k) : N.T (f k) := (h.T _).2 ⟨k, hk, rfl⟩
theorem Img.good (h : Img P N f) (hG : P.Good) : N.Good := by
 refine ⟨fun b s hb hs => ?_, fun b i hb hi => ?_⟩
 · obtain ⟨k, hk, rfl⟩ := (h.T b).1 hb
   rw [h.sup k hk] at hs; obtain ⟨q, hq, rfl⟩ := Option.map_eq_some_iff.1 hs; obtain ⟨h1, h2⟩ := hG.sup k q hk hq; exact ⟨h.mk_T h1, by rw [h.rk k hk, h.rk q h1]; exact h2⟩
 · obtain ⟨k, hk, rfl⟩ := (h.T b).1 hb
   rw [h.ifs k hk] at hi; obtain ⟨q, hq, rfl⟩ := List.mem_map.1 hi; obtain ⟨h1, h2⟩ := hG.ifs k q hk hq; exact ⟨h.mk_T h1, by rw [h.rk k hk, h.rk q h1]; exact h2⟩
theorem map_look (h : ∀ i j, P.T i -> P.T j -> f i = f j -> i = j) : ∀ (m a : List Nat), (∀ x ∈ a, P.T x) -> (∀ x ∈ m, P.T x) -> lookL (a.map f) (m.map f) = (lookL a m).map f
 | [], _, _, _ => rfl
 | b :: m, a, ha, hm => by
   show lookL (if f b ∈ a.map f then a.map f else a.map f ++ [f b]) (m.map f) = (lookL (if b ∈ a then a else a ++ [b]) m).map f
   by_cases hb : b ∈ a
   · rw [if_pos hb, if_pos (List.mem_map.2 ⟨b, hb, rfl⟩)]
     exact map_look h m a ha fun x hx => hm x (List.mem_cons_of_mem _ hx)
   · rw [if_neg hb, if_neg]
     · have h1 : a.map f ++ [f b] = (a ++ [b]).map f := by simp
       rw [h1]; refine map_look h m (a ++ [b]) (fun x hx => ?_) fun x hx => hm x (List.mem_cons_of_mem _ hx)
       rcases List.mem_append.1 hx with hx | hx
       · exact ha x hx
       · simp at hx; subst hx; exact hm _ (by simp)
     · intro hx
       obtain ⟨q, hq, e⟩ := List.mem_map.1 hx; exact hb ((h q b (ha q hq) (hm b (by simp)) e) ▸ hq)
theorem map_looks (h : ∀ i j, P.T i -> P.T j -> f i = f j -> i = j) {g g' : Nat -> List Nat} : ∀ (l a : List Nat), (∀ x ∈ a, P.T x) -> (∀ i ∈ l, g' (f i) = (g i).map f /\ ∀ x ∈ g i, P.T x) -> (l.map f).foldl (fun a i => lookL a (g' i)) (a.map f) = (l.foldl (fun a i => lookL a (g i)) a).map f
 | [], _, _, _ => rfl
 | i :: l, a, ha, hl => by
   rw [List.map_cons, List.foldl_cons, List.foldl_cons, (hl i (by simp)).1, map_look h (g i) a ha (hl i (by simp)).2]
   refine map_looks h l _ (fun x hx => ?_) fun j hj => hl j (List.mem_cons_of_mem _ hj)
   rcases mem_lookL _ _ hx with hx | hx
   · exact ha x hx
   · exact (hl i (by simp)).2 x hx
theorem Img.sl (h : Img P N f) (hG : P.Good) : ∀ n k, P.T k -> N.slF n (f k) = P.slF n k
 | 0, _, _ => rfl
 | n + 1, k, hk => by
   unfold Net.slF; rw [h.sup k hk, h.cl k hk]; cases hs : P.sup k with
   | none => rfl
   | some s => show N.slF n (f s) ++ _ = _; rw [Img.sl h hG n s (hG.sup k s hk hs).1]
theorem Img.mt (h : Img P N f) (hG : P.Good) : ∀ n k, P.T k -> N.mtF n (f k) = P.mtF n k
 | 0, _, _ => rfl
 | n + 1, k, hk => by
   unfold Net.mtF; rw [h.sup k hk, h.cl k hk]; cases hs : P.sup k with
   | none => rfl
   | some s => show _ ++ N.mtF n (f s) = _; rw [Img.mt h hG n s (hG.sup k s hk hs).1]
theorem abF_T (hG : P.Good) : ∀ n k, P.T k -> ∀ z ∈ P.abF n k, P.T z
 | 0, _, _, z, hz => by cases hz
 | n + 1, k, hk, z, hz => by
   unfold Net.abF at hz
   have h0 : ∀ z ∈ (P.ifs k).foldl (fun a i => lookL a (P.abF n i)) (if (P.cl k).iface then [k] else []), P.T z := by
    intro z hz
    rcases mem_looks hz with hz | ⟨i, h1, h2⟩
    · split at hz
      · simp at hz; subst hz; exact hk
      · cases hz
    · exact abF_T hG n i (hG.ifs k i hk h1).1 z h2
   cases hs : P.sup k with
   | none => rw [hs] at hz; exact h0 z hz
   | some s =>
     rw [hs] at hz
     rcases mem_lookL _ _ hz with hz | hz
     · exact h0 z hz
     · exact abF_T hG n s (hG.sup k s hk hs).1 z hz
theorem Img.abF (h : Img P N f) (hG : P.Good) : ∀ n k, P.T k -> N.abF n (f k) = (P.abF n k).map f
 | 0, _, _ => rfl
 | n + 1, k, hk => by
   have h0 : (N.ifs (f k)).foldl (fun a i => lookL a (N.abF n i)) (if (N.cl (f k)).iface then [f k] else []) = ((P.ifs k).foldl (fun a i => lookL a (P.abF n i)) (if (P.cl k).iface then [k] else [])).map f := by
    rw [h.ifs k hk, h.cl k hk]; have h1 : (if (P.cl k).iface = true then [f k] else []) = (if (P.cl k).iface = true then [k] else []).map f := by split <;> rfl
    rw [h1]; refine map_looks h.inj (P.ifs k) _ (fun x hx => ?_) fun i hi => ⟨Img.abF h hG n i (hG.ifs k i hk hi).1, abF_T hG n i (hG.ifs k i hk hi).1⟩
    split at hx
    · simp at hx; subst hx; exact hk
    · cases hx
   unfold Net.abF; rw [h.sup k hk]; cases hs : P.sup k with
   | none => exact h0
   | some s =>
     show lookL _ (N.abF n (f s)) = (lookL _ (P.abF n s)).map f; have hsT := (hG.sup k s hk hs).1; rw [h0, Img.abF h hG n s hsT]; refine map_look h.inj _ _ (fun z hz => ?_) (abF_T hG n s hsT)
     rcases mem_looks hz with hz | ⟨i, h1, h2⟩
     · split at hz
       · simp at hz; subst hz; exact hk
       · cases hz
     · exact abF_T hG n i (hG.ifs k i hk h1).1 z h2
theorem Img.ab (h : Img P N f) (hG : P.Good) (k : Nat) (hk : P.T k) : N.ab (f k) = (P.ab k).map f := by
 show N.abF (N.rk (f k) + 1) (f k) = _; rw [h.rk k hk, h.abF hG _ k hk]
 rfl
theorem Img.sl' (h : Img P N f) (hG : P.Good) (k : Nat) (hk : P.T k) : N.sl (f k) = P.sl k := by
 show N.slF (N.rk (f k) + 1) (f k) = _; rw [h.rk k hk, h.sl hG _ k hk]
 rfl
theorem Img.mt' (h : Img P N f) (hG : P.Good) (k : Nat) (hk : P.T k) : N.mt (f k) = P.mt k := by
 show N.mtF (N.rk (f k) + 1) (f k) = _; rw [h.rk k hk, h.mt hG _ k hk]
 rfl
theorem Img.ab0 (h : Img P N f) (hG : P.Good) (k : Nat) (hk : P.T k) (l : List Nat) (hl : ∀ i ∈ l, i ∈ P.ifs k) : N.ab0 (f k) (l.map f) = (P.ab0 k l).map f := by
 unfold Net.ab0; rw [h.cl k hk]; have h1 : (if (P.cl k).iface = true then [f k] else []) = (if (P.cl k).iface = true then [k] else []).map f := by split <;> rfl
 rw [h1]; refine map_looks h.inj l _ (fun x hx => ?_) fun i hi => ⟨h.ab hG i (hG.ifs k i hk (hl i hi)).1, abF_T hG _ i (hG.ifs k i hk (hl i hi)).1⟩
 split at hx
 · simp at hx; subst hx; exact hk
 · cases hx
theorem sub_map : ∀ {l m : List Nat}, (∀ i ∈ l, i ∈ m.map f) -> ∃ l' : List Nat, l = l'.map f /\ ∀ i ∈ l', i ∈ m
 | [], _, _ => ⟨[], rfl, by simp⟩
 | a :: l, m, h => by
   obtain ⟨l', h1, h2⟩ := sub_map (l := l) (m := m) fun i hi => h i (List.mem_cons_of_mem _ hi); obtain ⟨q, hq, rfl⟩ := List.mem_map.1 (h a (by simp))
   exact ⟨q :: l', by rw [h1]; rfl, fun i hi => by
    rcases List.mem_cons.1 hi with rfl | hi
    · exact hq
    · exact h2 i hi⟩
theorem Img.small (h : Img P N f) (hG : P.Good) (hS : P.Small) : N.Small := by
 refine ⟨fun b hb => ?_, fun b hb => ?_, fun b hb => ?_, fun b hb => ?_, fun b hb => ?_, fun b hb => ?_, fun b l hb hl => ?_⟩ <;> obtain ⟨k, hk, rfl⟩ := (h.T b).1 hb
 · rw [h.cl k hk]; exact hS.flds k hk
 · rw [h.cl k hk]; exact hS.mths k hk
 · rw [h.ifs k hk, List.length_map]; exact hS.ifs k hk
 · rw [h.sl' hG k hk]; exact hS.sl k hk
 · rw [h.mt' hG k hk]; exact hS.mt k hk
 · rw [h.ab hG k hk, List.length_map]; exact hS.ab k hk
 · rw [h.ifs k hk] at hl
   obtain ⟨l', rfl, hl'⟩ := sub_map hl; rw [h.ab0 hG k hk l' hl', List.length_map]; exact hS.ab0 k l' hk hl'
end
def bnet (l : List XCls) (up : List (List Nat)) (bs : List Nat) : Net :=
 ⟨fun b => b ∈ bs, fun b => clP l (bs.idxOf b), fun b => (supP l (bs.idxOf b)).map (bs.getD · 0), fun b => (ifsP l (bs.idxOf b)).map (bs.getD · 0), fun b => rkP up (bs.idxOf b)⟩
theorem idx_get {bs : List Nat} (hn : bs.Nodup) {k : Nat} (hk : k < bs.length) : bs.idxOf (bs.getD k 0) = k := by
 have h1 : bs.getD k 0 = bs[k] := by simp [List.getD, List.getElem?_eq_getElem hk]
 rw [h1]; exact hn.idxOf_getElem k hk
theorem bnet_img {l : List XCls} (up : List (List Nat)) {bs : List Nat} (hn : bs.Nodup) (hl : bs.length = l.length) : Img (pnet l up) (bnet l up bs) (bs.getD · 0) := by
 refine ⟨fun b => ⟨fun hb => ?_, ?_⟩, fun i j hi hj e => ?_, fun k hk => ?_, fun k hk => ?_, fun k hk => ?_, fun k hk => ?_⟩
 · have h1 : bs.idxOf b < bs.length := List.idxOf_lt_length_iff.2 hb
   refine ⟨bs.idxOf b, by show bs.idxOf b < l.length; rw [<- hl]; exact h1, ?_⟩
   show bs.getD (bs.idxOf b) 0 = b; simp [List.getD, List.getElem?_eq_getElem h1]
 · rintro ⟨k, hk, rfl⟩
   have hk' : k < bs.length := by rw [hl]; exact hk
   show bs.getD k 0 ∈ bs; have h1 : bs.getD k 0 = bs[k] := by simp [List.getD, List.getElem?_eq_getElem hk']
   rw [h1]; exact List.getElem_mem hk'
 · have hi' : i < bs.length := by rw [hl]; exact hi
   have hj' : j < bs.length := by rw [hl]; exact hj
   have := congrArg bs.idxOf e
   rwa [idx_get hn hi', idx_get hn hj'] at this
 all_goals
  have hk' : k < bs.length := by rw [hl]; exact hk
  show _ = _; simp only [bnet, pnet, idx_get hn hk']
end Ly
namespace Ly
open Pp Hr
def tyB (a b : Ty) : Bool := a.kind == b.kind && a.name == b.name
theorem tyB_iff (a b : Ty) : tyB a b = true ↔ a = b := by
 obtain ⟨k, n⟩ := a; obtain ⟨k', n'⟩ := b; simp [tyB]
def tysB : List Ty -> List Ty -> Bool
 | [], [] => true
 | a :: l, b :: m => tyB a b && tysB l m
 | _, _ => false
theorem tysB_iff : ∀ (l m : List Ty), tysB l m = true ↔ l = m
 | [], [] => by simp [tysB]
 | a :: l, [] => by simp [tysB]
 | [], b :: m => by simp [tysB]
 | a :: l, b :: m => by simp [tysB, tyB_iff, tysB_iff l m]
def alikeB (a b : XMth) : Bool := tysB a.params b.params && tyB a.ret b.ret
theorem alikeB_iff (a b : XMth) : alikeB a b = true ↔ a.params = b.params /\ a.ret = b.ret := by simp [alikeB, tyB_iff, tysB_iff]
def fldsOk (c : XCls) : Bool := !(c.iface && decide (0 < c.fields.length)) && c.fields.all fun f => f.ty.kind != 1
def mthOk (c : XCls) (m : XMth) : Bool := m.abst == c.iface && (!(c.iface && m.stat) && m.params.all fun t => t.kind != 1)
def formedB (c : XCls) : Bool := fldsOk c && c.methods.all (mthOk c)
def typesL (c : XCls) : List Ty := c.fields.map (·.ty) ++ c.methods.flatMap fun m => m.params ++ [m.ret]
def knownT (l : List XCls) (t : Ty) : Bool := t.name == [] || (placeL l t.name).isSome
def knownB (l : List XCls) (c : XCls) : Bool := (typesL c).all (knownT l)
def twiceP (c : XCls) : Prop := ¬ ((c.fields.map (·.name)).Nodup /\ (c.methods.map (·.name)).Nodup)
def twiceB (c : XCls) : Bool := !(decide ((c.fields.map (·.name)).Nodup) && decide ((c.methods.map (·.name)).Nodup))
theorem twiceB_iff (c : XCls) : twiceB c = true ↔ twiceP c := by
 unfold twiceB twiceP; simp only [Bool.not_eq_true', Bool.and_eq_false_iff, decide_eq_false_iff_not]; constructor
 · rintro (h | h) ⟨h1, h2⟩
   · exact h h1
   · exact h h2
 · intro h
   by_cases h1 : (c.fields.map (·.name)).Nodup
   · exact .inr fun h2 => h ⟨h1, h2⟩
   · exact .inl h1
def memF (l : List XCls) (c : XCls) : Int := if formedB c = true then (if twiceB c = true then 6 else if knownB l c = true then 0 else 5) else 4
def methP (N : Net) (b : Nat) (nm : Bs) : Option (Bs × XMth) := (N.mt b).find? fun o => o.2.name == nm
def slotP (N : Net) (b : Nat) (nm : Bs) : Bool := (N.sl b).any fun t => t.name == nm
def clashF (N : Net) (s : Nat) (f : Fld) : Bool := !f.stat && slotP N s f.name
def clashM (N : Net) (s : Nat) (m : XMth) : Bool := match methP N s m.name with
 | none => false
 | some o => o.2.stat != m.stat || !alikeB o.2 m
def supF (N : Net) (b : Nat) : Int := match N.sup b with
 | none => 0
 | some s => if (N.cl b).fields.any (clashF N s) = true then 6 else if (N.cl b).methods.any (clashM N s) = true then 8 else 0
def lackF (N : Net) (b : Nat) (m : XMth) : Int := match methP N b m.name with
 | none => 5
 | some o => if (o.2.stat || !alikeB o.2 m) = true then 8 else 0
def faceF (N : Net) (b i : Nat) : Int := if i ∈ N.ab b then firstL (lackF N b) (N.cl i).methods else 0
def ifcF (N : Net) (bs : List Nat) (b : Nat) : Int := if (N.cl b).iface = true then 0 else firstL (faceF N b) bs
def checkF (N : Net) (l : List XCls) (bs : List Nat) : Int :=
 if firstL (fun b => memF l (N.cl b)) bs = 0 then (if firstL (supF N) bs = 0 then firstL (ifcF N bs) bs else firstL (supF N) bs) else firstL (fun b => memF l (N.cl b)) bs
theorem Img.methP {P N : Net} {f : Nat -> Nat} (h : Img P N f) (hG : P.Good) (k : Nat) (hk : P.T k) (nm : Bs) : methP N (f k) nm = methP P k nm := by unfold Ly.methP; rw [h.mt' hG k hk]
theorem Img.slotP {P N : Net} {f : Nat -> Nat} (h : Img P N f) (hG : P.Good) (k : Nat) (hk : P.T k) (nm : Bs) : slotP N (f k) nm = slotP P k nm := by unfold Ly.slotP; rw [h.sl' hG k hk]
theorem Img.supF {P N : Net} {f : Nat -> Nat} (h : Img P N f) (hG : P.Good) (k : Nat) (hk : P.T k) : supF N (f k) = supF P k := by
 unfold Ly.supF; rw [h.sup k hk, h.cl k hk]; cases hs : P.sup k with
 | none => rfl
 | some s =>
   have hT := (hG.sup k s hk hs).1; have h1 : clashF N (f s) = clashF P s := funext fun x => by unfold clashF; rw [h.slotP hG s hT]
   have h2 : clashM N (f s) = clashM P s := funext fun x => by unfold clashM; rw [h.methP hG s hT]
   show (if (P.cl k).fields.any (clashF N (f s)) = true then (6 : Int) else if (P.cl k).methods.any (clashM N (f s)) = true then 8 else 0) = _
   rw [h1, h2]
theorem Img.ifcF {P N : Net} {f : Nat -> Nat} (h : Img P N f) (hG : P.Good) (l : List Nat) (hl : ∀ x ∈ l, P.T x) (k : Nat) (hk : P.T k) : ifcF N (l.map f) (f k) = ifcF P l k := by
 unfold Ly.ifcF; rw [h.cl k hk]
 split
 · rfl
 · refine firstL_congr f fun i hi => ?_
   have h1 : lackF N (f k) = lackF P k := funext fun m => by unfold lackF; rw [h.methP hG k hk]
   unfold faceF; rw [h.ab hG k hk, h1, h.cl i (hl i hi)]; by_cases hm : i ∈ P.ab k
   · rw [if_pos hm, if_pos (List.mem_map.2 ⟨i, hm, rfl⟩)]
   · rw [if_neg hm, if_neg]
     intro hx; obtain ⟨q, hq, e⟩ := List.mem_map.1 hx; exact hm ((h.inj q i (abF_T hG _ k hk q hq) (hl i hi) e) ▸ hq)
theorem Img.checkF {P N : Net} {f : Nat -> Nat} (h : Img P N f) (hG : P.Good) (cs : List XCls) (l : List Nat) (hl : ∀ x ∈ l, P.T x) : checkF N cs (l.map f) = checkF P cs l := by
 have h1 : firstL (fun b => memF cs (N.cl b)) (l.map f) = firstL (fun b => memF cs (P.cl b)) l := firstL_congr f fun x hx => by rw [h.cl x (hl x hx)]
 have h2 : firstL (Ly.supF N) (l.map f) = firstL (Ly.supF P) l := firstL_congr f fun x hx => h.supF hG x (hl x hx); have h3 : firstL (Ly.ifcF N (l.map f)) (l.map f) = firstL (Ly.ifcF P l) l := firstL_congr f fun x hx => h.ifcF hG l hl x (hl x hx); unfold Ly.checkF; rw [h1, h2, h3]
def layE (cs : List XCls) : Int := if errL cs = 0 then (match growL (allL cs) (allL cs) with
 | some up => checkF (pnet (allL cs) up) (allL cs) (List.range (allL cs).length)
 | none => 0) else errL cs
end Ly
open Go.RowKit
def Rdy (N : Net) (w0 w : World) (A : Nat -> Prop) : Prop := Below w0.heap.size w0 w /\ (∃ D : Nat -> Prop, ∀ b, N.T b -> Ent N w0 w D A b) /\ (∀ k, N.T k -> w0.heap.size <= k /\ k < w.heap.size) /\ ∀ k, A k -> w0.heap.size <= k /\ k < w.heap.size /\ ¬ N.T k
theorem Rdy.on {N : Net} {w0 w w' : World} {A : Nat -> Prop} (h : Rdy N w0 w A) (hb : Below w.heap.size w w') : Rdy N w0 w' A := by
 obtain ⟨h1, ⟨D, h2⟩, h3, h4⟩ := h; refine ⟨h1.trans (hb.mono h1.size), ⟨D, fun b hT => (h2 b hT).on (S := fun _ => False) ⟨hb.mono (Nat.zero_le _), fun k hk _ => hb.block k hk⟩ (fun _ _ h => h.elim) Iff.rfl⟩, fun k hk => ⟨(h3 k hk).1, Nat.lt_of_lt_of_le (h3 k hk).2 hb.size⟩, fun k hk => ⟨(h4 k hk).1, Nat.lt_of_lt_of_le (h4 k hk).2.1 hb.size, (h4 k hk).2.2⟩⟩
theorem Rdy.alloc {N : Net} {w0 w : World} {A : Nat -> Prop} (h : Rdy N w0 w A) (o : Obj) : Rdy N w0 (w.alloc o) (fun k => A k \/ k = w.heap.size) := by
 have hb : Below w.heap.size w (w.alloc o) := (Below.refl _ _).alloc (Nat.le_refl _) o; obtain ⟨h1, ⟨D, h2⟩, h3, h4⟩ := h; refine ⟨h1.trans (hb.mono h1.size), ⟨D, fun b hT => ((h2 b hT).more (A' := fun k => A k \/ k = w.heap.size) (fun k hk h => h.resolve_right fun e => by omega)).on (S := fun _ => False) ⟨hb.mono (Nat.zero_le _), fun k hk _ => hb.block k hk⟩ (fun _ _ h => h.elim) Iff.rfl⟩, fun k hk => ⟨(h3 k hk).1, Nat.lt_of_lt_of_le (h3 k hk).2 hb.size⟩, fun k hk => ?_⟩
 rcases hk with hk | rfl
 · exact ⟨(h4 k hk).1, Nat.lt_of_lt_of_le (h4 k hk).2.1 hb.size, (h4 k hk).2.2⟩
 · exact ⟨h1.size, by simp, fun hT => by have := (h3 _ hT).2; omega⟩
theorem Rdy.less {N : Net} {w0 w : World} {A A' : Nat -> Prop} (h : Rdy N w0 w A) (ha : ∀ k, A' k -> A k) : Rdy N w0 w A' := by
 obtain ⟨h1, ⟨D, h2⟩, h3, h4⟩ := h; exact ⟨h1, ⟨D, fun b hT => (h2 b hT).more fun k _ h => ha k h⟩, h3, fun k hk => h4 k (ha k hk)⟩
theorem Rdy.put {N : Net} {w0 w w' : World} {A S : Nat -> Prop} (h : Rdy N w0 w A) (hf : Fx S w w') (hs : ∀ k, S k -> A k) : Rdy N w0 w' A := by
 obtain ⟨h1, ⟨D, h2⟩, h3, h4⟩ := h; refine ⟨below_fx h1 hf fun k hk => (h4 k (hs k hk)).1, ⟨D, fun b hT => (h2 b hT).on hf (fun k _ hk => ⟨fun e => (h4 k (hs k hk)).2.2 (e ▸ hT), .inr (hs k hk)⟩) Iff.rfl⟩, fun k hk => ⟨(h3 k hk).1, Nat.lt_of_lt_of_le (h3 k hk).2 hf.size⟩, fun k hk => ⟨(h4 k hk).1, Nat.lt_of_lt_of_le (h4 k hk).2.1 hf.size, (h4 k hk).2.2⟩⟩
def Mded (N : Net) (w0 w : World) (A : Nat -> Prop) (b : Nat) : Prop := ∃ cs, w.heap[b]? = some (.cells cs 84 (0, 0)) /\ Done N w0 w (fun k => N.T k \/ A k) cs b
theorem Rdy.head {N : Net} {w0 w : World} {A : Nat -> Prop} (h : Rdy N w0 w A) {b : Nat} (hb : N.T b) : ∃ cs, w.heap[b]? = some (.cells cs 84 (0, 0)) /\ Self N w0 w (fun k => N.T k \/ A k) cs b := by
 obtain ⟨_, ⟨D, h2⟩, _⟩ := h; obtain ⟨cs, h1, h3, _⟩ := h2 b hb; exact ⟨cs, h1, h3⟩
theorem made_rdy (N : Net) (hG : N.Good) (hN : N.Small) (w0 : World) (x : Nat) (hT : N.T x) (w : World) (A : Nat -> Prop) (h : Rdy N w0 w A) :
 Calls Tryz.prog 21 #[.pointer (some ⟨x, 0, none⟩)] w fun e w' => e = .returned (.pointer (some ⟨x, 0, none⟩)) /\ Rdy N w0 w' A /\ Fx N.T w w' /\ Mded N w0 w' A x := by
 obtain ⟨h1, ⟨D, h2⟩, h3, h4⟩ := h; refine (made_all N w0 (fun y hy hlow v D A r hr hI hD hA hB hTk => ?_) (N.rk x + 1) x hT (Nat.lt_succ_self _) w D A (N.rk x + 1) (Nat.lt_succ_self _) (fun b hb _ => h2 b hb) (fun k hk => (h4 k hk).2) h1 (fun k hk => (h3 k hk).2)).mono ?_
 · obtain ⟨cs, e1, e2, e9, e10, _, e6⟩ := hI y hy hr
   obtain ⟨e8, ebare⟩ := e6 hD; have hf : Fx (fun k => k = y) v (v.setCell ⟨y, 9, none⟩ (.int .i32 1)) := Fx.set (S := fun k => k = y) rfl _; have hs14 := e2.1; refine fill_any N hG hN w0 y hy hlow _ D A (cs.setIfInBounds 9 (.int .i32 1)) ?_ (put_blk e1 _) ?_ ?_ hD ?_ ?_ (fun k hk => (h3 k hk).1) ?_
   · exact Inv.step (r := N.rk y) (fun b hb hbr => hI b hb (by omega)) hf (fun k _ hk => ⟨fun _ => by rw [show k = y from hk]; exact Nat.le_refl _, .inl (by rw [show k = y from hk]; exact hy)⟩) (fun _ _ h => h)
   · exact (e2.on hf (fun k _ hk => .inl (by rw [show k = y from hk]; exact hy))).cells (by simp [hs14]) (fun k hk => set_at _ (by omega))
   · exact ⟨(set_at _ (by decide)).trans ebare.1, (set_at _ (by decide)).trans ebare.2.1, (set_at _ (by decide)).trans ebare.2.2⟩
   · exact fun k hk => ⟨Nat.lt_of_lt_of_le (hA k hk).1 hf.size, (hA k hk).2⟩
   · exact fun k hk => Nat.lt_of_lt_of_le (hTk k hk) hf.size
   · exact below_fx hB hf (fun k hk => by rw [show k = y from hk]; exact (h3 y hy).1)
 · rintro e w' ⟨rfl, D', d1, d2, d3, d4, d5⟩
   have hB' : Below w0.heap.size w0 w' := below_fx h1 d5 (fun k hk => (h3 k hk.1).1); refine ⟨rfl, ⟨hB', ⟨D', fun b hb => ?_⟩, fun k hk => ⟨(h3 k hk).1, Nat.lt_of_lt_of_le (h3 k hk).2 d5.size⟩, fun k hk => ⟨(h4 k hk).1, Nat.lt_of_lt_of_le (h4 k hk).2.1 d5.size, (h4 k hk).2.2⟩⟩, d5.mono fun _ _ h => h.1, ?_⟩
   · by_cases hr : N.rk b < N.rk x + 1
     · exact d4 b hb hr
     · refine (h2 b hb).on d5 (fun k _ hk => ⟨?_, .inl hk.1⟩) ⟨fun h => ?_, d1 b⟩
       · rintro rfl
         rcases hk.2 with h | h
         · subst h; omega
         · omega
       · rcases d3 b h with h | h
         · exact h
         · exfalso
           rcases h.2 with h | h
           · subst h; omega
           · omega
   · obtain ⟨cs, e1, _, _, _, e5, _⟩ := d4 x hT (Nat.lt_succ_self _)
     exact ⟨cs, e1, (e5 d2).2⟩
namespace Ly
def mtys (m : Pp.XMth) : List Pp.Ty := m.params ++ [m.ret]
def accF (c : Pp.XCls) (k : Nat) : List Pp.Ty := (c.fields.take k).map (·.ty)
def accM (c : Pp.XCls) (k : Nat) : List Pp.Ty := c.fields.map (·.ty) ++ (c.methods.take k).flatMap mtys
theorem accF_snoc {c : Pp.XCls} {k : Nat} {f : Pp.Fld} (h : c.fields[k]? = some f) : accF c (k + 1) = accF c k ++ [f.ty] := by
 unfold accF; rw [List.take_add_one, h, Option.toList_some, List.map_append]
 rfl
theorem accM_snoc {c : Pp.XCls} {k : Nat} {m : Pp.XMth} (h : c.methods[k]? = some m) : accM c (k + 1) = (accM c k ++ m.params) ++ [m.ret] := by
 unfold accM; rw [List.take_add_one, h, Option.toList_some, List.flatMap_append]; simp [mtys]
theorem accF_len {c : Pp.XCls} {k : Nat} (h : k <= c.fields.length) : (accF c k).length = k := by
 unfold accF; rw [List.length_map, List.length_take, Nat.min_eq_left h]
theorem accF_end {c : Pp.XCls} {k : Nat} (h : c.fields.length <= k) : accF c k = accM c 0 := by
 unfold accF accM; rw [List.take_of_length_le h]; simp
theorem accM_end {c : Pp.XCls} {k : Nat} (h : c.methods.length <= k) : accM c k = typesL c := by
 unfold accM typesL; rw [List.take_of_length_le h]
 rfl
theorem mtys_len {l : List Pp.XMth} (h : ∀ m ∈ l, m.params.length <= 100) : (l.flatMap mtys).length <= l.length * 101 := by
 induction l with
 | nil => simp
 | cons m l ih =>
   have h1 := h m (by simp)
   have h2 := ih fun x hx => h x (List.mem_cons_of_mem _ hx); rw [List.flatMap_cons, List.length_append, List.length_cons]; have h3 : (mtys m).length = m.params.length + 1 := by simp [mtys]
   omega
theorem accM_len {c : Pp.XCls} {k : Nat} (hf : c.fields.length <= 100) (hm : c.methods.length <= 100) (hp : ∀ m ∈ c.methods, m.params.length <= 100) : (accM c k).length <= 100000 := by
 have h1 := mtys_len (l := c.methods.take k) fun m h => hp m (List.mem_of_mem_take h); unfold accM; rw [List.length_append, List.length_map]; rw [List.length_take] at h1; omega
end Ly
theorem shp_ty : Ow.Shp TyX 2 := by rintro x ys ⟨rfl, _⟩; exact ⟨rfl, by intro u hu; simp [tyL] at hu; rcases hu with rfl | rfl <;> rfl⟩
theorem i_ty : (Tryz.prog.info? 23).map (fun i => (i.zero.map (fun z => z.cells.size), i.size, i.bytes)) = some (some 2, 2, 24) := by kernel_rfl
theorem typesOf_any (c : Pp.XCls) (cs : List Value) (w : World) (h : ClsX w c cs) (hf : c.fields.length <= 100) (hm : c.methods.length <= 100) (hp : ∀ m ∈ c.methods, m.params.length <= 100) :
 Calls Tryz.prog 64 #[.agg cs.toArray] w fun e w' => ∃ v, e = .returned v /\ Ow.OwnX w' w.heap.size 23 2 TyX v (Ly.typesL c) /\ Below w.heap.size w w' := by
 obtain ⟨vi, vf, vm, rfl, x1, x2, x3, _⟩ := h; have HRf := hide x2; have HRm := hide x3; obtain ⟨ia, ic, rfl, _⟩ := x1.len; obtain ⟨fa, fc, rfl, _⟩ := x2.len; obtain ⟨ma, mc, rfl, _⟩ := x3.len; clear x1 x2 x3; have HPm := hide hp; obtain ⟨nf, hnf⟩ : ∃ q, q = c.fields.length := ⟨_, rfl⟩; obtain ⟨nm, hnm⟩ : ∃ q, q = c.methods.length := ⟨_, rfl⟩; have HNf := hide hnf; have HNm := hide hnm; rw [<- hnf] at HRf hf; rw [<- hnm] at HRm hm; simp only [clsXL]; rw [<- hnf, <- hnm]; clear hnf hnm hp; obtain ⟨NB, hNB⟩ : ∃ q : ByteArray, q = ⟨c.name.toArray⟩ := ⟨_, rfl⟩; rw [<- hNB]; clear hNB; generalize (⟨c.super.toArray⟩ : ByteArray) = SB; generalize c.iface = fi; generalize c.ifaces.length = ni; obtain ⟨j0, hj, hj0, hj1, hj2⟩ := Ow.info_of' i_ty; have HB0 := hide ((Below.refl w.heap.size w).alloc (Nat.le_refl _) (.cells #[.string NB, .bool fi, .string SB, .slice ia ni ic, .slice fa nf fc, .slice ma nm mc] 36)); have HX0 := hide (heap_alloc_new w (.cells #[.string NB, .bool fi, .string SB, .slice ia ni ic, .slice fa nf fc, .slice ma nm mc] 36)); go_enter Tryz.func64, Tryz.ntmps64; go_wp2_with fail; generalize w.alloc (.cells #[.string NB, .bool fi, .string SB, .slice ia ni ic, .slice fa nf fc, .slice ma nm mc] 36) = wa at *
 have hf1 : (nf : Int) <= 100 := by omega
 have hm1 : (nm : Int) <= 100 := by omega
 go_loopw [3, 11] (fun l i wr => ∃ (k : Nat) (la : Option Addr) (lc : Nat) (ln : Nat), k <= nf /\ i = .int .i64 k /\ l = .slice la ln lc /\ ln = k /\ Hid (Below wa.heap.size wa wr) /\ Hid (Ow.OwnX wr wa.heap.size 23 2 TyX (.slice la ln lc) (Ly.accF c k))) (fun _ i _ => nf - (intOf i).toNat)
 case atStart => exact ⟨0, none, 0, 0, Nat.zero_le _, rfl, rfl, rfl, hide (Below.refl _ _), hide (Ow.OwnX.nil _ _ _ _ _)⟩
 case round =>
  obtain ⟨k, la, lc, ln, hk, rfl, rfl, rfl, HB, HO⟩ := hrel; have HBw := hide (HB0.out.trans (HB.out.mono HB0.out.size)); by_cases hlt : ln < nf
  · obtain ⟨x, hx⟩ : ∃ x, c.fields[ln]? = some x := ⟨c.fields[ln]'(by rw [<- HNf.out]; exact hlt), List.getElem?_eq_getElem _⟩
    obtain ⟨g, o, rfl, ys, wf, hc⟩ := Ow.row_at' HRf.out hx; have hG := hide (hc wr HBw.out); have HTk := hide (Ly.accF_snoc hx); clear hc hx; obtain ⟨rfl, hl1, hl2⟩ := wf; have HTl := hide hl2; clear hl1 hl2; have r0 := hG.out 0 _ rfl; have r1 := hG.out 1 _ rfl; have r2 := hG.out 2 _ rfl; have r3 := hG.out 3 _ rfl; rw [Nat.add_zero] at r0; clear hG; have hlt' : (ln : Int) < (nf : Int) := by omega
    have hA : Below wr.heap.size wr (wr.alloc (.cells #[.string ⟨x.name.toArray⟩, .int .i64 x.ty.kind, .string ⟨x.ty.name.toArray⟩, .bool x.stat] 88)) := (Below.refl _ _).alloc (Nat.le_refl _) _; have hA2 : Below wr.heap.size wr ((wr.alloc (.cells #[.string ⟨x.name.toArray⟩, .int .i64 x.ty.kind, .string ⟨x.ty.name.toArray⟩, .bool x.stat] 88)).alloc (.cells #[.int .i64 x.ty.kind, .string ⟨x.ty.name.toArray⟩] 23)) := Ow.bel_alloc2 _ _ _; have hbx := heap_alloc_new wr (.cells #[.string ⟨x.name.toArray⟩, .int .i64 x.ty.kind, .string ⟨x.ty.name.toArray⟩, .bool x.stat] 88); have b0 := cell_box hbx 0; have b1 := cell_box hbx 1; have b2 := cell_box hbx 2; have b3 := cell_box hbx 3; have HO2 := hide (HO.out.on hA2 fun _ _ h => h); have HR2 : Hid (RowX ((wr.alloc (.cells #[.string ⟨x.name.toArray⟩, .int .i64 x.ty.kind, .string ⟨x.ty.name.toArray⟩, .bool x.stat] 88)).alloc (.cells #[.int .i64 x.ty.kind, .string ⟨x.ty.name.toArray⟩] 23)) 2 TyX (.slice (some ⟨(wr.alloc (.cells #[.string ⟨x.name.toArray⟩, .int .i64 x.ty.kind, .string ⟨x.ty.name.toArray⟩, .bool x.stat] 88)).heap.size, 0, none⟩) 1 1) [x.ty]) := hide (Ow.row_one' (P := TyX) (x := x.ty) (ys := [.int .i64 x.ty.kind, .string ⟨x.ty.name.toArray⟩]) ⟨rfl, HTl.out⟩); have HB2 := hide (HB.out.trans (hA2.mono HB.out.size)); have hlm := Ly.accF_len (c := c) (k := ln) (by rw [<- HNf.out]; omega)
    have hll : (Ly.accF c ln).length <= 100 := by omega
    clear hA hA2 hbx hlm
    go_wp2_with (at_builtin; refine Ow.wpList_app rfl (.tmp 15) (.tmp 18) 26 rfl Tryz.underlying26 hj hj0 hj1 hj2 (by decide) shp_ty (by first | rfl | simp [Act.eval, Act.put]) HO2.out (by first | rfl | simp [Act.eval, Act.put]) HR2.out (by simp; omega) (by decide) HB2.out.size ?_)
    intro v5 w5 ho5 hg5; have HB5 := hide (HB2.out.trans (Ow.bel_grown HO2.out HB2.out.size hg5)); rw [<- HTk.out] at ho5; have HO5 := hide ho5; clear ho5 hg5 HO2 HR2 HB2; have hn5 := Ly.accF_len (c := c) (k := ln + 1) (by rw [<- HNf.out]; omega)
    obtain ⟨xa, xc, hv5⟩ := HO5.out.shape; rw [hn5] at hv5; subst hv5; clear hn5; go_wp2_with fail
    go_roundw
    case rel => exact ⟨ln + 1, xa, xc, ln + 1, by omega, by go_num, rfl, rfl, HB5, HO5⟩
    case measure => simp [intOf]; omega
  · have hln : ln = nf := by omega
    subst hln; have hnl : ¬ ((ln : Int) < (ln : Int)) := by omega
    have HO1 : Hid (Ow.OwnX wr wa.heap.size 23 2 TyX (.slice la ln lc) (Ly.accM c 0)) := hide (by
     rw [<- Ly.accF_end (c := c) (k := ln) (by rw [<- HNf.out]; exact Nat.le_refl _)]
     exact HO.out)
    have hX1 := (HB.out.block _ (Ow.lt_of_blk HX0.out)).trans HX0.out; have c5 := cell_box hX1 5; clear hX1 HO; go_wp2_with fail
    go_loopw [3, 24] (fun l i wr => ∃ (k : Nat) (la : Option Addr) (lc : Nat) (n2 : Nat), k <= nm /\ i = .int .i64 k /\ l = .slice la n2 lc /\ n2 = (Ly.accM c k).length /\ Hid (Below wa.heap.size wa wr) /\ Hid (Ow.OwnX wr wa.heap.size 23 2 TyX (.slice la n2 lc) (Ly.accM c k))) (fun _ i _ => nm - (intOf i).toNat)
    case atStart =>
     obtain ⟨_, _, hsh⟩ := HO1.out.shape; injection hsh with _ h2 _; exact ⟨0, la, lc, ln, Nat.zero_le _, rfl, rfl, h2, HB, HO1⟩
    case round =>
     obtain ⟨k, la, lc, n2, hk, rfl, rfl, hn2, HB, HO⟩ := hrel; have hn3 := Ly.accM_len (c := c) (k := k) (by rw [<- HNf.out]; omega) (by rw [<- HNm.out]; omega) HPm.out
     have HN2 := hide hn2; rw [<- hn2] at hn3; clear hn2 HO1; have HBw := hide (HB0.out.trans (HB.out.mono HB0.out.size)); by_cases hlt : k < nm
     · obtain ⟨m, hx⟩ : ∃ x, c.methods[k]? = some x := ⟨c.methods[k]'(by rw [<- HNm.out]; exact hlt), List.getElem?_eq_getElem _⟩
       obtain ⟨g, o, rfl, ys, wf, hc⟩ := Ow.row_at' HRm.out hx; have hG := hide (hc wr HBw.out); have HTk := hide (Ly.accM_snoc hx); have hmp := HPm.out m (List.mem_of_getElem? hx); clear hc hx; obtain ⟨vp, vc, vk, rfl, z1, z2, z3, _, hrl, _⟩ := wf; have HRl := hide hrl; have HZ1 := hide z1; obtain ⟨ap, cp, rfl, _⟩ := z1.len; obtain ⟨ac, cc, rfl, _⟩ := z2.len; obtain ⟨ak, ck, rfl, _⟩ := z3.len; clear z1 z2 z3 hrl; have r0 := hG.out 0 _ rfl; have r1 := hG.out 1 _ rfl; have r2 := hG.out 2 _ rfl; have r3 := hG.out 3 _ rfl; have r4 := hG.out 4 _ rfl; have r5 := hG.out 5 _ rfl; have r6 := hG.out 6 _ rfl; have r7 := hG.out 7 _ rfl; have r8 := hG.out 8 _ rfl; rw [Nat.add_zero] at r0; clear hG; have hlt' : (k : Int) < (nm : Int) := by omega
       have hA : Below wr.heap.size wr (wr.alloc (.cells #[.string ⟨m.name.toArray⟩, .bool m.stat, .bool m.abst, .slice ap m.params.length cp, .int .i64 m.ret.kind, .string ⟨m.ret.name.toArray⟩, .int .i64 m.locals, .slice ac m.code.length cc, .slice ak m.catches.length ck] 29)) := (Below.refl _ _).alloc (Nat.le_refl _) _; have HBA := hide (HB.out.trans (hA.mono HB.out.size)); have HOA := hide (HO.out.on hA fun _ _ h => h); have HZA := hide ((HZ1.out.on HBw.out fun _ _ h => h).on hA fun _ _ h => h); have hbx := heap_alloc_new wr (.cells #[.string ⟨m.name.toArray⟩, .bool m.stat, .bool m.abst, .slice ap m.params.length cp, .int .i64 m.ret.kind, .string ⟨m.ret.name.toArray⟩, .int .i64 m.locals, .slice ac m.code.length cc, .slice ak m.catches.length ck] 29); have HBx := hide hbx; have hbz : wr.heap.size < (wr.alloc (.cells #[.string ⟨m.name.toArray⟩, .bool m.stat, .bool m.abst, .slice ap m.params.length cp, .int .i64 m.ret.kind, .string ⟨m.ret.name.toArray⟩, .int .i64 m.locals, .slice ac m.code.length cc, .slice ak m.catches.length ck] 29)).heap.size := Ow.lt_of_blk hbx; clear hA hbx HO HZ1; go_wp2_with fail; generalize wr.alloc (.cells #[.string ⟨m.name.toArray⟩, .bool m.stat, .bool m.abst, .slice ap m.params.length cp, .int .i64 m.ret.kind, .string ⟨m.ret.name.toArray⟩, .int .i64 m.locals, .slice ac m.code.length cc, .slice ak m.catches.length ck] 29) = wB at *
       have hD : Below wB.heap.size wB wB.drew := Below.drew (Below.refl _ _); have hDa : Below wB.heap.size wB (wB.drew.alloc (.cells #[.int .i64 m.ret.kind, .string ⟨m.ret.name.toArray⟩] 23)) := hD.alloc (Nat.le_refl _) _; have b3 := cell_box HBx.out 3; have b4 := cell_box HBx.out 4; have b5 := cell_box HBx.out 5; have hax := (hDa.block _ hbz).trans HBx.out; have a3 := cell_box hax 3; have a4 := cell_box hax 4; have a5 := cell_box hax 5; have HAl : Hid ((wB.drew.alloc (.cells #[.int .i64 m.ret.kind, .string ⟨m.ret.name.toArray⟩] 23)).heap[wB.heap.size]? = some (.cells #[.int .i64 m.ret.kind, .string ⟨m.ret.name.toArray⟩] 23 (0, 0))) := hide (heap_alloc_new wB.drew _); have HOd := hide (fun wx (hb : Below wB.heap.size wB wx) => HOA.out.on hb fun _ _ h => h); have HZd := hide (fun wx (hb : Below wB.heap.size wB wx) => HZA.out.on hb fun _ _ h => h); have hD1 := hide hD; have hDa1 := hide hDa; have HRt : Hid (TyX m.ret [.int .i64 m.ret.kind, .string ⟨m.ret.name.toArray⟩]) := hide ⟨rfl, HRl.out⟩; have hle : (Ly.accM c k).length + m.params.length <= 1000000 := by rw [<- HN2.out]; omega
       have hle2 : (Ly.accM c k ++ m.params).length + [m.ret].length <= 1000000 := by rw [List.length_append, <- HN2.out]; simp; omega
       have hbase : wa.heap.size <= wB.heap.size := HBA.out.size; clear r0 r1 r2 r3 r4 r5 r6 r7 r8 hax hD hDa
       go_region_law (first
        | (refine Ow.step_app rfl (.tmp 28) (.tmp 30) 26 rfl Tryz.underlying26 hj hj0 hj1 hj2 (by decide) shp_ty (by first | rfl | simp [Act.eval, Act.put]) (HOd.out _ (by first | exact hD1.out | exact hDa1.out)) (by first | rfl | simp [Act.eval, Act.put]) (HZd.out _ (by first | exact hD1.out | exact hDa1.out)) hle (by decide) (Nat.le_trans hbase (by first | exact hD1.out.size | exact hDa1.out.size)) ?_
           intro v5 w5 ho5 hg5; have HK5 := (Ow.kx_grown (HOd.out _ (by first | exact hD1.out | exact hDa1.out)) hg5)
           have hb5 := HK5.blk wr.heap.size _ _ _ (by first | exact ((hD1.out.block _ hbz).trans HBx.out) | exact ((hDa1.out.block _ hbz).trans HBx.out)) (by decide)
           have q4 := cell_box hb5 4; have q5 := cell_box hb5 5; have HB5 : Hid (Below wa.heap.size wa w5) := hide ((HBA.out.trans ((by first | exact hD1.out | exact hDa1.out : Below wB.heap.size wB _).mono hbase)).trans (Ow.bel_grown (HOd.out _ (by first | exact hD1.out | exact hDa1.out)) (Nat.le_trans hbase (by first | exact hD1.out.size | exact hDa1.out.size)) hg5))
           try have HR5 : Hid (RowX w5 2 TyX (.slice (some ⟨wB.heap.size, 0, none⟩) 1 1) [m.ret]) := hide (Hr.row_one ((hg5.block wB.heap.size (Ow.lt_of_blk HAl.out) (fun e => absurd (own_lt HOA.out e.symm).1 (Nat.lt_irrefl _))).trans HAl.out) HRt.out)
           have HO5 := hide ho5; obtain ⟨xa, xc, hv5⟩ := ho5.shape; obtain ⟨n5, hn5⟩ : ∃ q, q = (Ly.accM c k ++ m.params).length := ⟨_, rfl⟩; rw [<- hn5] at hv5; clear HK5 hb5 ho5 hg5 hn5
           subst hv5)
        | (refine Ow.step_app rfl (.tmp 31) (.tmp 34) 26 rfl Tryz.underlying26 hj hj0 hj1 hj2 (by decide) shp_ty (by first | rfl | simp [Act.eval, Act.put]) (by first | exact HO5.out | exact HO5.out.on ((Below.refl _ _).alloc (Nat.le_refl _) _) fun _ _ h => h) (by first | rfl | simp [Act.eval, Act.put]) (by first | exact HR5.out | exact Ow.row_one' (P := TyX) (x := m.ret) HRt.out) hle2 (by decide) (by first | exact HB5.out.size | exact (HB5.out.alloc HB5.out.size _).size) ?_
           intro v7 w7 ho7 hg7; have HB7 : Hid (Below wa.heap.size wa w7) := hide (by first | exact HB5.out.trans (Ow.bel_grown HO5.out HB5.out.size hg7) | exact (HB5.out.alloc HB5.out.size _).trans (Ow.bel_grown (HO5.out.on ((Below.refl _ _).alloc (Nat.le_refl _) _) fun _ _ h => h) (HB5.out.alloc HB5.out.size _).size hg7))
           rw [<- HTk.out] at ho7; have HO7 := hide ho7; obtain ⟨ya, yc, hv7⟩ := ho7.shape; obtain ⟨n7, hn7⟩ : ∃ q, q = (Ly.accM c (k + 1)).length := ⟨_, rfl⟩; rw [<- hn7] at hv7; have HN7 := hide hn7; clear ho7 hg7 hn7
           subst hv7)
        | fail)
       all_goals go_wp2_with fail
       all_goals go_roundw
       all_goals first
        | exact ⟨k + 1, ya, yc, n7, by omega, by go_num, rfl, HN7.out, HB7, HO7⟩
        | (simp [intOf]; omega)
     · have hkn : k = nm := by omega
       subst hkn; have hnl : ¬ ((k : Int) < (k : Int)) := by omega
       go_wp2_with fail; go_ret; refine ⟨_, rfl, ?_, HBw.out⟩; have := HO.out.low HB0.out.size fun _ _ h => h
       rwa [Ly.accM_end (by rw [<- HNm.out]; exact Nat.le_refl _)] at this
theorem cls_open {w : World} {c : Pp.XCls} {ys : List Value} (h : ClsX w c ys) : ∃ ia ic fa fc ma mc, ys = [.string ⟨c.name.toArray⟩, .bool c.iface, .string ⟨c.super.toArray⟩, .slice ia c.ifaces.length ic, .slice fa c.fields.length fc, .slice ma c.methods.length mc] /\
 RowX w 1 StrX (.slice ia c.ifaces.length ic) c.ifaces /\ RowX w 4 FldX (.slice fa c.fields.length fc) c.fields /\ RowX w 9 (MthX w) (.slice ma c.methods.length mc) c.methods := by
 obtain ⟨vi, vf, vm, rfl, x1, x2, x3, _⟩ := h; obtain ⟨ia, ic, rfl, _⟩ := x1.len; obtain ⟨fa, fc, rfl, _⟩ := x2.len; obtain ⟨ma, mc, rfl, _⟩ := x3.len; exact ⟨ia, ic, fa, fc, ma, mc, rfl, x1, x2, x3⟩
theorem ltwice_any (c : Pp.XCls) (cs : List Value) (w : World) (h : ClsX w c cs) (hf : c.fields.length <= 100) (hm : c.methods.length <= 100) :
 Calls Tryz.prog 43 #[.agg cs.toArray] w fun e w' => Hr.Yes (Ly.twiceP c) e /\ Below w.heap.size w w' := by
 obtain ⟨ia, ic, fa, fc, ma, mc, rfl, x1, x2, x3⟩ := cls_open h; have HF := hide (fun wx (hb : Below w.heap.size w wx) => repF_any c.fields _ wx (x2.on hb fun _ _ h => h) (by omega))
 have HM := hide (fun wx (hb : Below w.heap.size w wx) => repM_any w c.methods _ wx (x3.on hb fun _ _ h => h) (by omega))
 obtain ⟨F, hF⟩ : ∃ F : Prop, F = ((c.fields.map (·.name)).Nodup) := ⟨_, rfl⟩; obtain ⟨M, hM⟩ : ∃ F : Prop, F = ((c.methods.map (·.name)).Nodup) := ⟨_, rfl⟩; have HT : Hid (Ly.twiceP c ↔ ¬ (F /\ M)) := hide (by rw [hF, hM]; exact Iff.rfl)
 rw [<- hF] at HF; rw [<- hM] at HM; clear x1 x2 x3 h hF hM hf hm; generalize (⟨c.name.toArray⟩ : ByteArray) = NB at *
 generalize (⟨c.super.toArray⟩ : ByteArray) = SB at *
 generalize c.iface = fi at *
 generalize c.ifaces.length = ni at *
 generalize c.fields.length = nf at *
 generalize c.methods.length = nm at *
 have HB0 := hide ((Below.refl w.heap.size w).alloc (Nat.le_refl _) (.cells #[.string NB, .bool fi, .string SB, .slice ia ni ic, .slice fa nf fc, .slice ma nm mc] 36)); have HX0 := hide (heap_alloc_new w (.cells #[.string NB, .bool fi, .string SB, .slice ia ni ic, .slice fa nf fc, .slice ma nm mc] 36)); go_enter Tryz.func43, Tryz.ntmps43; go_wp2_with fail; generalize w.alloc (.cells #[.string NB, .bool fi, .string SB, .slice ia ni ic, .slice fa nf fc, .slice ma nm mc] 36) = wa at *
 refine (HF.out wa HB0.out).mono ?_; rintro e w1 ⟨⟨b, rfl, hb⟩, hb1⟩; have HB1 := hide (HB0.out.trans (hb1.mono HB0.out.size)); have hX1 := (hb1.block _ (Ow.lt_of_blk HX0.out)).trans HX0.out; have c5 := cell_box hX1 5; have HQ := hide hb; clear hb hb1 hX1 HX0 HF; cases b with
 | true =>
   have HP : Hid (Ly.twiceP c) := hide (HT.out.2 fun h => HQ.out.1 rfl h.1); clear HQ HT; go_wp2_with fail; go_ret; exact ⟨.yes HP.out, HB1.out⟩
 | false =>
   have HFt : Hid F := hide (Classical.byContradiction fun h => by have := HQ.out.2 h; cases this)
   clear HQ; go_wp2_with fail; refine (HM.out w1 HB1.out).mono ?_; rintro e w2 ⟨⟨b, rfl, hb⟩, hb2⟩; have HB2 := hide (HB1.out.trans (hb2.mono HB1.out.size)); have HP : Hid (b = true ↔ Ly.twiceP c) := hide (hb.trans ⟨fun h => HT.out.2 fun h2 => h h2.2, fun h h2 => HT.out.1 h ⟨HFt.out, h2⟩⟩); clear hb hb2 HM HT; go_wp2_with fail; go_ret; exact ⟨⟨_, rfl, HP.out⟩, HB2.out⟩
end Go.Proofs.YtjlappamkfjlkabGreatDoor

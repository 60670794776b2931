/- What the laws of this seat lean on: 6 texts. -/
import Derived.Test.YtbbbnciejmdpfaaGreatDoorPkAj
import Derived.Test.YtbbbnciejmdpfaaGreatDoorPkAf
import Derived.Test.YtbbbnciejmdpfaaGreatDoorPkAo
import Derived.Test.YtbbbnciejmdpfaaGreatDoorPkAh
import Derived.Test.YtbbbnciejmdpfaaGreatDoorPkAb
set_option maxRecDepth 100000
set_option maxHeartbeats 64000000
set_option linter.unusedVariables false
set_option linter.unusedSimpArgs false
namespace Go.Proofs.YtbbbnciejmdpfaaGreatDoor
open Go.RowKit
namespace Hr
def placeI : Option Nat -> Int
 | none => -1
 | some k => k
def superS (c : Pp.XCls) : Pp.Bs := (superL c).getD []
theorem superL_ne {c : Pp.XCls} {s : Pp.Bs} (h : superL c = some s) : s ≠ [] := by
 unfold superL at h
 split at h
 · cases h
 · split at h
   · cases h; decide
   · cases h; assumption
theorem superS_nil {c : Pp.XCls} (h : superS c = []) : superL c = none := by
 cases hs : superL c with
 | none => rfl
 | some s => unfold superS at h; rw [hs] at h; exact absurd h (superL_ne hs)
theorem superS_ne {c : Pp.XCls} (h : superS c ≠ []) : superL c = some (superS c) := by
 cases hs : superL c with
 | none => unfold superS at h; rw [hs] at h; exact absurd rfl h
 | some s => unfold superS; rw [hs]; rfl
end Hr
theorem RAt_any (l : List Pp.XCls) (v : Value) (n : Pp.Bs) (w : World) (h : RowX w 6 (ClsX w) v l) (hlen : l.length <= maxLen) :
 Calls Tryz.prog 31 #[v, .string ⟨n.toArray⟩] w fun e w' => e = .returned (.int .i64 (Hr.placeI (Hr.placeL l n))) /\ Below w.heap.size w w' := by
 obtain ⟨pa, pc, rfl, _⟩ := h.len; have H := hide h; obtain ⟨m, hm⟩ : ∃ m, m = l.length := ⟨_, rfl⟩; have HM := hide hm; rw [<- hm] at H hlen ⊢; clear h hm; have hmx : (m : Int) <= 9223372036854775807 := by unfold maxLen at hlen; omega
 go_enter Tryz.func31, Tryz.ntmps31; go_wp2_with fail
 go_loopw [5] (fun i wr => ∃ k : Nat, k <= m /\ i = .int .i64 k /\ Below w.heap.size w wr /\ Hid (∀ (j : Nat) (d : Pp.XCls), j < k -> l[j]? = some d -> d.name ≠ n)) (fun i _ => m - (intOf i).toNat)
 case atStart => exact ⟨0, by omega, rfl, Below.refl _ _, hide fun j d hj => absurd hj (Nat.not_lt_zero _)⟩
 case round =>
  obtain ⟨k, hk, rfl, hbw, hp⟩ := hrel; by_cases hlt : k < m
  · obtain ⟨x, hx⟩ : ∃ x, l[k]? = some x := ⟨l[k]'(by rw [<- HM.out]; exact hlt), List.getElem?_eq_getElem _⟩
    obtain ⟨g1, o1, rfl, ys1, w1', hc1⟩ := Hr.row_at H.out hx; have hG := hide (hc1 wr hbw); clear hc1; obtain ⟨vp, vc, vk, rfl, -⟩ := w1'; have r0 := hG.out 0 _ rfl; rw [Nat.add_zero] at r0; clear hG; have hlt' : (k : Int) < (m : Int) := by omega
    by_cases hn : x.name = n
    · have hr := hide (Hr.placeL_at hx hn hp.out)
      rw [hn] at r0; clear hx hn; generalize (⟨n.toArray⟩ : ByteArray) = y0 at *
      go_wp2_with fail; go_ret; rw [hr.out]; exact ⟨rfl, hbw⟩
    · have hne : (x.name == n) = false := by simp [hn]
      have hr : Hid (∀ (j : Nat) (d : Pp.XCls), j < k + 1 -> l[j]? = some d -> d.name ≠ n) := hide fun j d hj hd => by
       rcases Nat.lt_or_eq_of_le (Nat.le_of_lt_succ hj) with h | rfl
       · exact hp.out j d h hd
       · rw [hx] at hd; cases hd; exact hn
      clear hx hn hp; generalize x.name = y0 at *
      go_wp2_with fail
      go_roundw
      case rel => exact ⟨k + 1, by omega, by go_num, hbw, hr⟩
      case measure => simp [intOf]; omega
  · have hr : Hid (Hr.placeL l n = none) := hide (Hr.placeL_none.2 fun j d hd => hp.out j d (by have := (List.getElem?_eq_some_iff.1 hd).1; have := HM.out; omega) hd)
    go_wp2_with fail; go_ret; rw [hr.out]; exact ⟨rfl, hbw⟩
theorem has_any (l : List Pp.Bs) (v : Value) (n : Pp.Bs) (w : World) (h : RowX w 1 StrX v l) (hlen : l.length <= maxLen) :
 Calls Tryz.prog 49 #[v, .string ⟨n.toArray⟩] w fun e w' => e = .returned (.bool (decide (n ∈ l))) /\ Below w.heap.size w w' := by
 obtain ⟨pa, pc, rfl, _⟩ := h.len; have H := hide h; obtain ⟨m, hm⟩ : ∃ m, m = l.length := ⟨_, rfl⟩; have HM := hide hm; rw [<- hm] at H hlen ⊢; clear h hm; have hmx : (m : Int) <= 9223372036854775807 := by unfold maxLen at hlen; omega
 obtain ⟨b, hb⟩ : ∃ b, b = decide (n ∈ l) := ⟨_, rfl⟩; have HB := hide hb; rw [<- hb]; clear hb; go_enter Tryz.func49, Tryz.ntmps49; go_wp2_with fail
 go_loopw [5] (fun i wr => ∃ k : Nat, k <= m /\ i = .int .i64 k /\ Below w.heap.size w wr /\ Hid (n ∉ l.take k)) (fun i _ => m - (intOf i).toNat)
 case atStart => exact ⟨0, by omega, rfl, Below.refl _ _, hide (by simp)⟩
 case round =>
  obtain ⟨k, hk, rfl, hbw, hp⟩ := hrel; by_cases hlt : k < m
  · obtain ⟨x, hx⟩ : ∃ x, l[k]? = some x := ⟨l[k]'(by rw [<- HM.out]; exact hlt), List.getElem?_eq_getElem _⟩
    obtain ⟨g1, o1, rfl, ys1, w1', hc1⟩ := Hr.row_at H.out hx; obtain rfl : ys1 = _ := w1'.1; have r0 := hc1 wr hbw 0 _ rfl; rw [Nat.add_zero, Nat.mul_one] at r0; have hlt' : (k : Int) < (m : Int) := by omega
    clear hc1 w1'; by_cases hn : x = n
    · have hr : Hid (b = true) := hide (by rw [HB.out, decide_eq_true_eq, <- hn]; exact List.mem_of_getElem? hx)
      rw [hn] at r0; clear hx hn; generalize (⟨n.toArray⟩ : ByteArray) = y0 at *
      go_wp2_with fail; go_ret; rw [hr.out]; exact ⟨rfl, hbw⟩
    · have hne : (x == n) = false := by simp [hn]
      have hr : Hid (n ∉ l.take (k + 1)) := hide (by
       rw [List.take_add_one, hx, List.mem_append]; rintro (h | h)
       · exact hp.out h
       · simp at h; exact hn h.symm)
      clear hx hn hp; go_wp2_with fail
      go_roundw
      case rel => exact ⟨k + 1, by omega, by go_num, hbw, hr⟩
      case measure => simp [intOf]; omega
  · have hr : Hid (b = false) := hide (by
     have := hp.out; rw [List.take_of_length_le (by rw [<- HM.out]; omega)] at this
     rw [HB.out]; simpa using this)
    go_wp2_with fail; go_ret; rw [hr.out]; exact ⟨rfl, hbw⟩
theorem RSuper_any (c : Pp.XCls) (ys : List Value) (w : World) (h : ClsX w c ys) :
 Calls Tryz.prog 47 #[.agg ys.toArray] w fun e w' => e = .returned (.string ⟨(Hr.superS c).toArray⟩) /\ Below w.heap.size w w' := by
 obtain ⟨vp, vc, vk, rfl, p1, i1, k1, z1⟩ := h; clear p1 i1 k1; simp only [clsXL, List.toArray]; by_cases hi : c.iface = true
 · have hr : Hid (Hr.superS c = []) := hide (by simp [Hr.superS, Hr.superL, hi])
   rw [hi]; generalize (⟨c.name.toArray⟩ : ByteArray) = y0; generalize (⟨c.super.toArray⟩ : ByteArray) = y2; rw [hr.out]; go_enter Tryz.func47, Tryz.ntmps47; go_wp2; go_ret; exact ⟨rfl, (Below.refl _ _).alloc (Nat.le_refl _) _⟩
 · have hi' : c.iface = false := by simpa using hi
   by_cases hn : c.name = Hr.objN
   · have hr : Hid (Hr.superS c = []) := hide (by simp [Hr.superS, Hr.superL, hn])
     rw [hi', hn, hr.out]; generalize (⟨c.super.toArray⟩ : ByteArray) = y2; go_enter Tryz.func47, Tryz.ntmps47; go_wp2; go_ret; exact ⟨rfl, (Below.refl _ _).alloc (Nat.le_refl _) _⟩
   · have hne : (c.name == Hr.objN) = false := by simp [hn]
     simp only [Hr.objN] at hne; by_cases hs : c.super = []
     · have hr : Hid (Hr.superS c = Hr.objN) := hide (by simp [Hr.superS, Hr.superL, hn, hi', hs])
       rw [hi', hs, hr.out]; generalize c.name = y0 at *
       go_enter Tryz.func47, Tryz.ntmps47; go_wp2; go_ret; exact ⟨rfl, (Below.refl _ _).alloc (Nat.le_refl _) _⟩
     · have hse : (c.super == []) = false := by simp [hs]
       have hr : Hid (Hr.superS c = c.super) := hide (by simp [Hr.superS, Hr.superL, hn, hi', hs])
       rw [hi', hr.out]; clear hr hs hn; generalize c.name = y0 at *
       generalize c.super = y2 at *
       go_enter Tryz.func47, Tryz.ntmps47; go_wp2; go_ret; exact ⟨rfl, (Below.refl _ _).alloc (Nat.le_refl _) _⟩
namespace Ly
open Pp Hr
theorem look_iff {x : Nat} : ∀ (more acc : List Nat), x ∈ lookL acc more ↔ x ∈ acc \/ x ∈ more
 | [], acc => by show x ∈ acc ↔ _; simp
 | b :: r, acc => by
   show x ∈ lookL (if b ∈ acc then acc else acc ++ [b]) r ↔ _
   rw [look_iff r]
   split
   · rename_i h
     simp; constructor
     · rintro (h1 | h1)
       · exact .inl h1
       · exact .inr (.inr h1)
     · rintro (h1 | rfl | h1)
       · exact .inl h1
       · exact .inl h
       · exact .inr h1
   · simp [or_assoc]
def rowF (l : List XCls) : Nat -> Nat -> List Nat
 | 0, _ => []
 | n + 1, k => k :: (match superL (clP l k) with
   | none => []
   | some s => match placeL l s with
     | none => []
     | some q => rowF l n q)
def rowP (l : List XCls) (up : List (List Nat)) (k : Nat) : List Nat := rowF l (rkP up k + 1) k
section
variable {cs : List XCls} {up : List (List Nat)}
theorem not_ring (he : errL cs = 0) (hg : growL (allL cs) (allL cs) = some up) : ¬ Ring up := by
 obtain ⟨_, _, up', h1, h2⟩ := err_zero he; rw [hg] at h1; injection h1 with h1; subst h1; exact h2
theorem super_at (he : errL cs = 0) (hg : growL (allL cs) (allL cs) = some up) {k : Nat} (hk : k < (allL cs).length) {s : Bs} (hs : superL (clP (allL cs) k) = some s) : ∃ q, placeL (allL cs) s = some q /\ q < (allL cs).length /\ (clP (allL cs) q).name = s /\ (clP (allL cs) q).iface = false /\ rkP up q < rkP up k := by
 obtain ⟨q, d, h1, h2, h3, h4, h5, h6⟩ := super_step hg (at_of hk) hs; refine ⟨q, h1, h6, by rw [clP_at h2]; exact h3, by rw [clP_at h2]; exact h4, rk_lt hg (not_ring he hg) h5⟩
theorem rowF_eq (he : errL cs = 0) (hg : growL (allL cs) (allL cs) = some up) : ∀ n m k, k < (allL cs).length -> rkP up k < n -> rkP up k < m -> rowF (allL cs) n k = rowF (allL cs) m k
 | n + 1, m + 1, k, hk, h1, h2 => by
   unfold rowF; cases hs : superL (clP (allL cs) k) with
   | none => rfl
   | some s =>
     obtain ⟨q, e1, e2, _, _, e3⟩ := super_at he hg hk hs; simp only [e1]; rw [rowF_eq he hg n m q e2 (by omega) (by omega)]
theorem row_none (he : errL cs = 0) (hg : growL (allL cs) (allL cs) = some up) {k : Nat} (hs : superL (clP (allL cs) k) = none) : rowP (allL cs) up k = [k] := by
 unfold rowP rowF; rw [hs]
theorem row_some (he : errL cs = 0) (hg : growL (allL cs) (allL cs) = some up) {k q : Nat} (hk : k < (allL cs).length) {s : Bs} (hs : superL (clP (allL cs) k) = some s) (hq : placeL (allL cs) s = some q) : rowP (allL cs) up k = k :: rowP (allL cs) up q := by
 obtain ⟨q', e1, e2, _, _, e3⟩ := super_at he hg hk hs; rw [hq] at e1; injection e1 with e1; subst e1; unfold rowP; rw [rowF]; simp only [hs, hq]; rw [rowF_eq he hg (rkP up k) (rkP up q + 1) q e2 e3 (Nat.lt_succ_self _)]
theorem row_lt (he : errL cs = 0) (hg : growL (allL cs) (allL cs) = some up) : ∀ n k, k < (allL cs).length -> rkP up k < n -> (rowP (allL cs) up k).length <= rkP up k + 1 /\ ∀ z ∈ rowP (allL cs) up k, z < (allL cs).length
 | n + 1, k, hk, hn => by
   cases hs : superL (clP (allL cs) k) with
   | none =>
     rw [row_none he hg hs]; exact ⟨by simp, fun z hz => by simp at hz; omega⟩
   | some s =>
     obtain ⟨q, e1, e2, _, _, e3⟩ := super_at he hg hk hs; rw [row_some he hg hk hs e1]; obtain ⟨h1, h2⟩ := row_lt he hg n q e2 (by omega)
     refine ⟨by simp; omega, fun z hz => ?_⟩
     rcases List.mem_cons.1 hz with rfl | hz
     · exact hk
     · exact h2 z hz
theorem base_bare {k : Nat} (hk : k < 8) : (clP (allL cs) k).fields = [] /\ (clP (allL cs) k).methods = [] /\ (clP (allL cs) k).iface = false := by
 obtain ⟨x, h1, h2, h3, h4, h5⟩ := base_at hk; rw [clP_at (all_base hk |>.trans h1)]
 exact ⟨h4, h5, h2⟩
theorem top_at : clP (allL cs) 0 = plain objN [] := rfl
theorem top_sup (he : errL cs = 0) : supP (allL cs) 0 = none := place_nil (err_zero he).1
theorem sup_top (he : errL cs = 0) (hg : growL (allL cs) (allL cs) = some up) {k : Nat} (hk : k < (allL cs).length) (hs : supP (allL cs) k = none) {s : Bs} (h : superL (clP (allL cs) k) = some s) : placeL (allL cs) s = some 0 := by
 have h1 := sup_none he hg hk hs; unfold superL at h
 split at h
 · cases h
 · first | rw [h1, if_pos rfl] at h | skip
   injection h with h; subst h; exact place_top
theorem sl_top (he : errL cs = 0) (hg : growL (allL cs) (allL cs) = some up) (hk : 0 < (allL cs).length) : (pnet (allL cs) up).sl 0 = [] := by
 rw [(pnet_good he hg).sl 0 hk]; have : (pnet (allL cs) up).sup 0 = none := top_sup he; rw [this]
 rfl
theorem mt_top (he : errL cs = 0) (hg : growL (allL cs) (allL cs) = some up) (hk : 0 < (allL cs).length) : (pnet (allL cs) up).mt 0 = [] := by
 rw [(pnet_good he hg).mt 0 hk]; have : (pnet (allL cs) up).sup 0 = none := top_sup he; rw [this]
 rfl
theorem row_slots (he : errL cs = 0) (hg : growL (allL cs) (allL cs) = some up) : ∀ n k, k < (allL cs).length -> rkP up k < n ->
 (rowP (allL cs) up k).reverse.flatMap (fun q => ownL (clP (allL cs) q) false (clP (allL cs) q).fields) = (pnet (allL cs) up).sl k /\
 (rowP (allL cs) up k).flatMap (fun q => Net.ownM (clP (allL cs) q)) = (pnet (allL cs) up).mt k
 | n + 1, k, hk, hn => by
   have hG := pnet_good he hg; rw [hG.sl k hk, hG.mt k hk]; have hcl : (pnet (allL cs) up).cl k = clP (allL cs) k := rfl; have hsp : (pnet (allL cs) up).sup k = supP (allL cs) k := rfl; rw [hcl, hsp]; cases hs : superL (clP (allL cs) k) with
   | none =>
     rw [row_none he hg hs]
     have h0 : supP (allL cs) k = none := by
      cases h : supP (allL cs) k with
      | none => rfl
      | some q =>
        have := (sup_step he hg hk h).1; rw [hs] at this; cases this
     rw [h0]; simp
   | some s =>
     obtain ⟨q, e1, e2, _, _, e3⟩ := super_at he hg hk hs; rw [row_some he hg hk hs e1, List.reverse_cons, List.flatMap_append]; simp only [List.flatMap_cons, List.flatMap_nil]; obtain ⟨i1, i2⟩ := row_slots he hg n q e2 (by omega)
     rw [i1, i2]; cases hp : supP (allL cs) k with
     | none =>
       have hq := sup_top he hg hk hp hs; rw [e1] at hq; injection hq with hq; subst hq; rw [sl_top he hg e2, mt_top he hg e2]; simp
     | some z =>
       have h1 := (sup_step he hg hk hp).1; rw [hs] at h1; injection h1 with h1; unfold supP at hp; rw [<- h1, e1] at hp; injection hp with hp; subst hp; simp
theorem row_len (he : errL cs = 0) (hg : growL (allL cs) (allL cs) = some up) {k : Nat} (hk : k < (allL cs).length) : (rowP (allL cs) up k).length <= 19 := by
 have h1 := (row_lt he hg _ k hk (Nat.lt_succ_self _)).1; have h2 := rk_le up k; have h3 := growL_len hg; have h4 := ((eachB_iff cs 10 clsB).1 (err_zero he).1).1; have h5 := all_len cs; have h6 : base.length = 8 := rfl; omega
theorem ab_far (he : errL cs = 0) (hg : growL (allL cs) (allL cs) = some up) : ∀ n k, k < (allL cs).length -> rkP up k < n -> ∀ z, z ∈ (pnet (allL cs) up).ab k ↔ (clP (allL cs) z).iface = true /\ (z = k \/ Far up k z)
 | n + 1, k, hk, hn, z => by
   have hG := pnet_good he hg
   have hm : ∀ (l : List Nat) (a : List Nat), z ∈ l.foldl (fun a i => lookL a ((pnet (allL cs) up).ab i)) a ↔ z ∈ a \/ ∃ i ∈ l, z ∈ (pnet (allL cs) up).ab i := fun l => by
    induction l with
    | nil => intro a; simp
    | cons i l ih =>
      intro a; rw [List.foldl_cons, ih, look_iff]; constructor
      · rintro ((h | h) | ⟨j, h1, h2⟩)
        · exact .inl h
        · exact .inr ⟨i, by simp, h⟩
        · exact .inr ⟨j, List.mem_cons_of_mem _ h1, h2⟩
      · rintro (h | ⟨j, h1, h2⟩)
        · exact .inl (.inl h)
        · rcases List.mem_cons.1 h1 with rfl | h1
          · exact .inl (.inr h2)
          · exact .inr ⟨j, h1, h2⟩
   have hsp : (pnet (allL cs) up).sup k = supP (allL cs) k := rfl
   have h0 : z ∈ (pnet (allL cs) up).ab0 k (ifsP (allL cs) k) ↔ (z = k /\ (clP (allL cs) k).iface = true) \/ ∃ i ∈ ifsP (allL cs) k, (clP (allL cs) z).iface = true /\ (z = i \/ Far up i z) := by
    unfold Net.ab0; rw [hm]
    have e1 : z ∈ (if ((pnet (allL cs) up).cl k).iface = true then [k] else []) ↔ z = k /\ (clP (allL cs) k).iface = true := by
     show z ∈ (if (clP (allL cs) k).iface = true then [k] else []) ↔ _
     split
     · rename_i h; simp [h]
     · rename_i h; simp [h]
    rw [e1]; constructor
    · rintro (h | ⟨i, h1, h2⟩)
      · exact .inl h
      · obtain ⟨q1, q2⟩ := hG.ifs k i hk h1
        exact .inr ⟨i, h1, (ab_far he hg n i q1 (by have : rkP up i < rkP up k := q2; omega) z).1 h2⟩
    · rintro (h | ⟨i, h1, h2⟩)
      · exact .inl h
      · obtain ⟨q1, q2⟩ := hG.ifs k i hk h1
        exact .inr ⟨i, h1, (ab_far he hg n i q1 (by have : rkP up i < rkP up k := q2; omega) z).2 h2⟩
   have hstep : ∀ j, Step up k j -> j ∈ ifsP (allL cs) k \/ supP (allL cs) k = some j \/ (supP (allL cs) k = none /\ j = 0) := by
    rintro j ⟨u, hu, hj⟩; obtain ⟨u', hu', huc⟩ := growL_at hg (at_of hk); rw [hu] at hu'; injection hu' with hu'; subst hu'; obtain ⟨y, hy, e⟩ := (ups_names huc).2 j hj; unfold aboveL at hy
    rcases List.mem_append.1 hy with hy | hy
    · cases hsl : superL (clP (allL cs) k) with
      | none => rw [hsl] at hy; cases hy
      | some s =>
        rw [hsl] at hy; simp at hy; subst hy; cases hp : supP (allL cs) k with
        | none =>
          have := sup_top he hg hk hp hsl; rw [e] at this; injection this with this; exact .inr (.inr ⟨rfl, this⟩)
        | some q =>
          have h1 := (sup_step he hg hk hp).1; rw [hsl] at h1; injection h1 with h1; unfold supP at hp; rw [<- h1, e] at hp; exact .inr (.inl hp.symm)
    · exact .inl (List.mem_filterMap.2 ⟨y, hy, e⟩)
   have hfar : ∀ {i j : Nat}, Far up i j -> ∃ m, Step up i m /\ (j = m \/ Far up m j) := by
    intro i j h; refine Far.ind (C := fun i j => ∃ m, Step up i m /\ (j = m \/ Far up m j)) (fun s => ⟨_, s, .inl rfl⟩) (fun _ s ih => ?_) h; obtain ⟨m, h1, h2⟩ := ih; refine ⟨m, h1, .inr ?_⟩
    rcases h2 with rfl | h2
    · exact .one s
    · exact .more h2 s
   have htop : ∀ z, ¬ Far up 0 z := by
    intro z h; obtain ⟨m, ⟨u, hu, hm⟩, _⟩ := hfar h; have := up_top hg; rw [this] at hu; injection hu with hu; subst hu; cases hm
   have hi0 : (clP (allL cs) 0).iface = false := rfl; have hsf : ∀ j, j ∈ ifsP (allL cs) k -> Step up k j := fun j hj => (ifs_step hg hk hj).1; rw [hG.ab k hk, hsp]; cases hp : supP (allL cs) k with
   | none =>
     show z ∈ (pnet (allL cs) up).ab0 k (ifsP (allL cs) k) ↔ _; rw [h0]; constructor
     · rintro (⟨rfl, h⟩ | ⟨i, h1, h2, h3⟩)
       · exact ⟨h, .inl rfl⟩
       · refine ⟨h2, .inr ?_⟩
         rcases h3 with rfl | h3
         · exact .one (hsf _ h1)
         · exact (Far.one (hsf _ h1)).trans h3
     · rintro ⟨h1, rfl | h2⟩
       · exact .inl ⟨rfl, h1⟩
       · obtain ⟨m, e1, e2⟩ := hfar h2
         rcases hstep m e1 with e3 | e3 | ⟨_, rfl⟩
         · exact .inr ⟨m, e3, h1, e2⟩
         · rw [hp] at e3; cases e3
         · rcases e2 with rfl | e2
           · rw [hi0] at h1; cases h1
           · exact absurd e2 (htop z)
   | some s =>
     show z ∈ lookL ((pnet (allL cs) up).ab0 k (ifsP (allL cs) k)) ((pnet (allL cs) up).ab s) ↔ _; obtain ⟨q1, q2⟩ := hG.sup k s hk hp; have hss := (sup_step he hg hk hp).2.1; rw [look_iff, h0, ab_far he hg n s q1 (by have : rkP up s < rkP up k := q2; omega) z]
     constructor
     · rintro ((⟨rfl, h⟩ | ⟨i, h1, h2, h3⟩) | ⟨h2, h3⟩)
       · exact ⟨h, .inl rfl⟩
       · refine ⟨h2, .inr ?_⟩
         rcases h3 with rfl | h3
         · exact .one (hsf _ h1)
         · exact (Far.one (hsf _ h1)).trans h3
       · refine ⟨h2, .inr ?_⟩
         rcases h3 with rfl | h3
         · exact .one hss
         · exact (Far.one hss).trans h3
     · rintro ⟨h1, rfl | h2⟩
       · exact .inl (.inl ⟨rfl, h1⟩)
       · obtain ⟨m, e1, e2⟩ := hfar h2
         rcases hstep m e1 with e3 | e3 | ⟨e3, _⟩
         · exact .inl (.inr ⟨m, e3, h1, e2⟩)
         · rw [hp] at e3
           injection e3 with e3; subst e3; exact .inr ⟨h1, e2⟩
         · rw [hp] at e3; cases e3
end
end Ly
namespace Ly
open Pp Hr
def mOkG (c : XCls) (m : XMth) : Bool := !((c.iface && (!m.abst || m.stat)) || (!c.iface && m.abst)) && m.params.all fun t => t.kind != 1
def fOkG (c : XCls) (f : Fld) : Bool := !(c.iface || f.ty.kind == 1)
def namedG (l : List XCls) (t : Ty) : Bool := (t.kind != 3 && t.kind != 5) || (placeL l t.name).isSome
def mNamG (l : List XCls) (m : XMth) : Bool := namedG l m.ret && m.params.all (namedG l)
def memG (l : List XCls) (c : XCls) : Int :=
 if c.methods.all (mOkG c) = true /\ c.fields.all (fOkG c) = true then (if (c.fields.map (·.name)).Nodup /\ (c.methods.map (·.name)).Nodup then (if c.fields.all (fun f => namedG l f.ty) = true /\ c.methods.all (mNamG l) = true then 0 else 5) else 6) else 4
theorem all_congr {α : Type} {p q : α -> Bool} : ∀ {l : List α}, (∀ x ∈ l, p x = q x) -> l.all p = l.all q
 | [], _ => rfl
 | a :: l, h => by rw [List.all_cons, List.all_cons, h a (by simp), all_congr fun x hx => h x (List.mem_cons_of_mem _ hx)]
theorem formG_eq (c : XCls) : (c.methods.all (mOkG c) = true /\ c.fields.all (fOkG c) = true) ↔ formedB c = true := by
 unfold formedB fldsOk; rw [Bool.and_eq_true, Bool.and_eq_true]
 have h1 : c.methods.all (mOkG c) = c.methods.all (mthOk c) := all_congr fun m _ => by
  unfold mOkG mthOk; cases c.iface <;> cases m.abst <;> cases m.stat <;> simp
 rw [h1]; cases hi : c.iface with
 | true =>
   have h2 : c.fields.all (fOkG c) = decide (c.fields = []) := by
    cases c.fields with
    | nil => rfl
    | cons f fs => rw [List.all_cons]; unfold fOkG; rw [hi]; simp
   rw [h2]; cases c.fields with
   | nil => simp
   | cons f fs => simp
 | false =>
   have h2 : c.fields.all (fOkG c) = c.fields.all (fun f => f.ty.kind != 1) := all_congr fun f _ => by unfold fOkG; rw [hi]; rfl
   rw [h2]; simp [and_comm]
theorem named_ty {t : Ty} (l : List XCls) (h : typeB t = true) : namedG l t = knownT l t := by
 unfold typeB at h; unfold namedG knownT
 split at h
 · rename_i hk
   have hn : t.name = [] := by simpa using h
   rw [hn]
   rcases hk with hk | hk | hk <;> rw [hk] <;> simp
 · split at h
   · rename_i hk
     have hne := fresh_ne h; have hne' : (t.name == []) = false := by simpa using hne
     rw [hne']
     rcases hk with hk | hk <;> rw [hk] <;> simp
   · cases h
def tyd (c : XCls) : Prop := (∀ f ∈ c.fields, typeB f.ty = true) /\ ∀ m ∈ c.methods, typeB m.ret = true /\ ∀ t ∈ m.params, typeB t = true
theorem knownG_eq {c : XCls} (l : List XCls) (h : tyd c) : (c.fields.all (fun f => namedG l f.ty) = true /\ c.methods.all (mNamG l) = true) ↔ knownB l c = true := by
 unfold knownB typesL; rw [List.all_append, Bool.and_eq_true, List.all_map]; have h1 : c.fields.all (fun f => namedG l f.ty) = c.fields.all (knownT l ∘ fun f => f.ty) := all_congr fun f hf => named_ty l (h.1 f hf); rw [h1]
 have h2 : c.methods.all (mNamG l) = (c.methods.flatMap fun m => m.params ++ [m.ret]).all (knownT l) := by
  have h3 : ∀ m ∈ c.methods, mNamG l m = (m.params ++ [m.ret]).all (knownT l) := fun m hm => by
   unfold mNamG; rw [List.all_append, named_ty l (h.2 m hm).1, all_congr fun t ht => named_ty l ((h.2 m hm).2 t ht)]; simp [Bool.and_comm]
  generalize c.methods = ms at h3
  induction ms with
  | nil => rfl
  | cons m ms ih => rw [List.all_cons, List.flatMap_cons, List.all_append, h3 m (by simp), ih fun x hx => h3 x (List.mem_cons_of_mem _ hx)]
 rw [h2]
theorem memG_eq {c : XCls} (l : List XCls) (h : tyd c) : memG l c = memF l c := by
 unfold memG memF; by_cases h1 : formedB c = true
 · rw [if_pos ((formG_eq c).2 h1), if_pos h1]
   by_cases h2 : (c.fields.map (·.name)).Nodup /\ (c.methods.map (·.name)).Nodup
   · rw [if_pos h2, if_neg (fun h => (twiceB_iff c).1 h h2)]
     by_cases h3 : knownB l c = true
     · rw [if_pos ((knownG_eq l h).2 h3), if_pos h3]
     · rw [if_neg (fun h4 => h3 ((knownG_eq l h).1 h4)), if_neg h3]
   · rw [if_neg h2, if_pos ((twiceB_iff c).2 h2)]
 · rw [if_neg (fun h4 => h1 ((formG_eq c).1 h4)), if_neg h1]
theorem all_tyd {cs : List XCls} (h : progB cs = true) {k : Nat} {c : XCls} (hc : (allL cs)[k]? = some c) : tyd c := by
 rcases List.mem_append.1 (List.mem_of_getElem? hc) with hm | hm
 · have : ∀ c ∈ base, c.methods = [] /\ c.fields = [] := by decide
   obtain ⟨h1, h2⟩ := this c hm; exact ⟨by rw [h2]; simp, by rw [h1]; simp⟩
 · obtain ⟨_, _, _, _, _, h6, h7⟩ := cls_parts (prog_all h hm)
   refine ⟨fun f hf => ?_, fun m hm => ?_⟩
   · have := h6 f hf
     simp only [fldB, Bool.and_eq_true] at this; exact this.2
   · have := h7 m hm
     simp only [mthB, Bool.and_eq_true, eachB_iff] at this; exact ⟨this.2.2.1, this.2.1.2⟩
section
variable {cs : List XCls} {up : List (List Nat)}
def inhG (N : Net) (q : Nat) (c : XCls) : Int := if c.fields.any (clashF N q) = true then 6 else if c.methods.any (clashM N q) = true then 8 else 0
theorem inh_sup (he : errL cs = 0) (hg : growL (allL cs) (allL cs) = some up) {k q : Nat} (hk : k < (allL cs).length) {s : Bs} (hs : superL (clP (allL cs) k) = some s) (hq : placeL (allL cs) s = some q) : inhG (pnet (allL cs) up) q (clP (allL cs) k) = supF (pnet (allL cs) up) k := by
 unfold supF; have hsp : (pnet (allL cs) up).sup k = supP (allL cs) k := rfl; have hcl : (pnet (allL cs) up).cl k = clP (allL cs) k := rfl; rw [hsp, hcl]; cases hp : supP (allL cs) k with
 | none =>
   have h0 := sup_top he hg hk hp hs; rw [hq] at h0; injection h0 with h0; subst h0; have h0l : 0 < (allL cs).length := by omega
   have h1 : (clP (allL cs) k).fields.any (clashF (pnet (allL cs) up) 0) = false := by
    rw [List.any_eq_false]; intro f _; unfold clashF slotP; rw [sl_top he hg h0l]; simp
   have h2 : (clP (allL cs) k).methods.any (clashM (pnet (allL cs) up) 0) = false := by
    rw [List.any_eq_false]; intro m _; unfold clashM methP; rw [mt_top he hg h0l]; simp
   show inhG _ 0 _ = 0; unfold inhG; rw [h1, h2]
   rfl
 | some z =>
   have h1 := (sup_step he hg hk hp).1; rw [hs] at h1; injection h1 with h1; unfold supP at hp; rw [<- h1, hq] at hp; injection hp with hp; subst hp
   rfl
theorem sup_iface (he : errL cs = 0) (hg : growL (allL cs) (allL cs) = some up) {k : Nat} (hk : k < (allL cs).length) (hi : (clP (allL cs) k).iface = true) : supF (pnet (allL cs) up) k = 0 := by
 unfold supF; have hsp : (pnet (allL cs) up).sup k = supP (allL cs) k := rfl; rw [hsp]; cases hp : supP (allL cs) k with
 | none => rfl
 | some z =>
   have h1 := (sup_step he hg hk hp).1; unfold superL at h1; rw [if_pos (.inl hi)] at h1; cases h1
theorem base_up (he : errL cs = 0) (hg : growL (allL cs) (allL cs) = some up) {k : Nat} (hk : k < 8) {u : List Nat} (hu : up[k]? = some u) {j : Nat} (hj : j ∈ u) : j < 8 := by
 obtain ⟨_, ho, _⟩ := err_zero he; obtain ⟨x, b1, b2, b3, _⟩ := base_at hk; obtain ⟨u', hu', huc⟩ := growL_at hg ((all_base hk).trans b1); rw [hu] at hu'; injection hu' with hu'; subst hu'; obtain ⟨y, hy, e⟩ := (ups_names huc).2 j hj; unfold aboveL at hy; rw [b3, List.append_nil] at hy; have hb : ∀ x ∈ base, ∀ y ∈ (superL x).toList, y = objN \/ y = errN := by decide
 rcases hb x (List.mem_of_getElem? b1) y hy with rfl | rfl
 · rw [place_top] at e
   injection e with e; omega
 · rw [place_one ho] at e
   injection e with e; omega
theorem base_mem (l : List XCls) {k : Nat} (hk : k < 8) : memF l (clP (allL cs) k) = 0 := by
 obtain ⟨h1, h2, h3⟩ := base_bare (cs := cs) hk
 have e1 : formedB (clP (allL cs) k) = true := by
  unfold formedB fldsOk; rw [h1, h2, h3]
  rfl
 have e2 : ¬ twiceB (clP (allL cs) k) = true := fun h => (twiceB_iff _).1 h (by rw [h1, h2]; exact ⟨List.nodup_nil, List.nodup_nil⟩)
 have e3 : knownB l (clP (allL cs) k) = true := by
  unfold knownB typesL; rw [h1, h2]
  rfl
 unfold memF; rw [if_pos e1, if_neg e2, if_pos e3]
theorem base_sup (hg : growL (allL cs) (allL cs) = some up) {k : Nat} (hk : k < 8) : supF (pnet (allL cs) up) k = 0 := by
 obtain ⟨h1, h2, h3⟩ := base_bare (cs := cs) hk; unfold supF; have hcl : (pnet (allL cs) up).cl k = clP (allL cs) k := rfl; rw [hcl, h1, h2]
 split <;> simp
theorem base_ifc (he : errL cs = 0) (hg : growL (allL cs) (allL cs) = some up) {k : Nat} (hk : k < 8) : ifcF (pnet (allL cs) up) (List.range (allL cs).length) k = 0 := by
 unfold ifcF; have hcl : (pnet (allL cs) up).cl k = clP (allL cs) k := rfl; obtain ⟨_, _, h3⟩ := base_bare (cs := cs) hk; rw [hcl, h3, if_neg (by decide)]
 have hkl : k < (allL cs).length := by
  have h5 := all_len cs; have h6 : base.length = 8 := rfl; omega
 have hz : ∀ i, i ∉ (pnet (allL cs) up).ab k := by
  intro i hi; obtain ⟨h1, h2⟩ := (ab_far he hg _ k hkl (Nat.lt_succ_self _) i).1 hi; obtain ⟨x, b1, b2, b3, _⟩ := base_at hk
  have hlow : ∀ {a b : Nat}, Far up a b -> a < 8 -> b < 8 := by
   intro a b h; refine Far.ind (C := fun a b => a < 8 -> b < 8) (fun {i j} s h => ?_) (fun {i j m} _ s ih h => ?_) h
   · obtain ⟨u, hu, hj⟩ := s
     exact base_up he hg h hu hj
   · obtain ⟨u, hu, hj⟩ := s
     exact base_up he hg (ih h) hu hj
  have h8 : i < 8 := by
   rcases h2 with rfl | h2
   · exact hk
   · exact hlow h2 hk
  rw [(base_bare (cs := cs) h8).2.2] at h1; cases h1
 have : ∀ l : List Nat, firstL (faceF (pnet (allL cs) up) k) l = 0 := by
  intro l
  induction l with
  | nil => rfl
  | cons a l ih =>
    have h0 : faceF (pnet (allL cs) up) k a = 0 := by unfold faceF; rw [if_neg (hz a)]
    simp only [firstL, h0, if_true, ih]
 exact this _
end
end Ly
namespace Hr
theorem above_nil {c : Pp.XCls} (h : superS c = []) : aboveL c = c.ifaces := by
 unfold aboveL; rw [superS_nil h]; rfl
theorem above_ne {c : Pp.XCls} (h : superS c ≠ []) : aboveL c = superS c :: c.ifaces := by
 unfold aboveL; rw [superS_ne h]; rfl
theorem superS_len {c : Pp.XCls} (h : c.super.length <= maxLen) : (superS c).length <= maxLen := by
 unfold superS superL
 split
 · exact Nat.zero_le _
 · split
   · show 6 <= maxLen; unfold maxLen; omega
   · exact h
end Hr
theorem above_any (c : Pp.XCls) (ys : List Value) (w : World) (h : ClsX w c ys) (hl : c.ifaces.length <= 1000) :
 Calls Tryz.prog 48 #[.agg ys.toArray] w fun e w' => ∃ v', e = .returned v' /\ Ow.OwnX w' w.heap.size 9 1 StrX v' (Hr.aboveL c) /\ Below w.heap.size w w' := by
 obtain ⟨j0, hj, hj0, hj1, hj2⟩ := Ow.info_of Ow.i_str; have HS := hide (fun wx (hb : Below w.heap.size w wx) => RSuper_any c ys wx (h.on hb)); obtain ⟨vp, vc, vk, rfl, p1, i1, k1, z1⟩ := h; have HI := hide p1; have HZ := hide z1.2.1; obtain ⟨va1, vd1, rfl, _⟩ := p1.len; obtain ⟨va2, vd2, rfl, _⟩ := i1.len; obtain ⟨va3, vd3, rfl, _⟩ := k1.len; clear p1 i1 k1 z1; simp only [clsXL, List.toArray] at HS ⊢; have HX := hide (heap_alloc_new w (.cells #[.string ⟨c.name.toArray⟩, .bool c.iface, .string ⟨c.super.toArray⟩, .slice va1 c.ifaces.length vd1, .slice va2 c.fields.length vd2, .slice va3 c.methods.length vd3] 42)); have HB0 := hide ((Below.refl w.heap.size w).alloc (Nat.le_refl _) (.cells #[.string ⟨c.name.toArray⟩, .bool c.iface, .string ⟨c.super.toArray⟩, .slice va1 c.ifaces.length vd1, .slice va2 c.fields.length vd2, .slice va3 c.methods.length vd3] 42)); go_enter Tryz.func48, Tryz.ntmps48; go_wp2_with fail; refine (HS.out _ HB0.out).mono ?_; rintro e w1 ⟨rfl, hb1⟩; have HB1 := hide (HB0.out.trans (hb1.mono HB0.out.size)); have c3 := cell_box ((hb1.block _ (Ow.lt_of_blk HX.out)).trans HX.out) 3; have HC3 := hide (fun wx (hb : Below w1.heap.size w1 wx) => cell_box ((hb.block _ (Nat.lt_of_lt_of_le (Ow.lt_of_blk HX.out) hb1.size)).trans ((hb1.block _ (Ow.lt_of_blk HX.out)).trans HX.out)) 3); clear HS hb1 HX HB0; obtain ⟨n, hn⟩ : ∃ n, n = c.ifaces.length := ⟨_, rfl⟩; have HN := hide hn; rw [<- hn] at HI c3 HC3 hl; clear hn; by_cases hs : Hr.superS c = []
 · have HA := hide (Hr.above_nil hs)
   rw [hs]
   go_wp2_with (at_builtin; refine Ow.wpList_app rfl (.tmp 13) (.tmp 15) 38 rfl Tryz.underlying38 hj hj0 hj1 hj2 (by decide) Ow.shp_str rfl (Ow.OwnX.nil w1 w.heap.size 9 1 StrX) rfl (HI.out.on HB1.out fun _ _ h => h) ?c1 (by decide) HB1.out.size ?_)
   case c1 => rw [<- HN.out]; simp; omega
   · intro v' w2 hown hgrow
     have HB2 := hide (HB1.out.trans (Ow.bel_grown (Ow.OwnX.nil w1 w.heap.size 9 1 StrX) HB1.out.size hgrow)); have HO2 : Hid (Ow.OwnX w2 w.heap.size 9 1 StrX v' (Hr.aboveL c)) := hide (by rw [HA.out]; exact hown)
     clear hown hgrow; go_wp2_with fail; go_ret; exact ⟨_, rfl, HO2.out, HB2.out⟩
 · have HA := hide (Hr.above_ne hs)
   have hse : (Hr.superS c == []) = false := by simp [hs]
   have HL := hide (Hr.superS_len HZ.out); clear hs; generalize Hr.superS c = s at *
   have hAl := HB1.out.alloc HB1.out.size (.cells #[.string ⟨s.toArray⟩] 9); have HAl := hide hAl; have HR1 : Hid (RowX (w1.alloc (.cells #[.string ⟨s.toArray⟩] 9)) 1 StrX (.slice (some ⟨w1.heap.size, 0, none⟩) 1 1) [s]) := hide (Hr.row_one (heap_alloc_new w1 _) ⟨rfl, HL.out⟩); clear hAl c3
   go_wp2_with (at_builtin; refine Ow.wpList_app rfl (.tmp 9) (.tmp 11) 38 rfl Tryz.underlying38 hj hj0 hj1 hj2 (by decide) Ow.shp_str rfl (Ow.OwnX.nil _ w.heap.size 9 1 StrX) rfl HR1.out ?c1 (by decide) HAl.out.size ?_)
   case c1 => simp
   · intro v' w2 hown hgrow
     have HG2 := hide (Ow.bel_grown (Ow.OwnX.nil (w1.alloc (.cells #[.string ⟨s.toArray⟩] 9)) (w1.alloc (.cells #[.string ⟨s.toArray⟩] 9)).heap.size 9 1 StrX) (Nat.le_refl _) hgrow); have HW2 : Hid (Below w1.heap.size w1 w2) := hide (((Below.refl _ _).alloc (Nat.le_refl _) _).trans (HG2.out.mono (by simp)))
     have HB2 := hide (HB1.out.trans (HW2.out.mono HB1.out.size)); have HO2 := hide hown; have c3 := HC3.out _ HW2.out; obtain ⟨la, lc, rfl⟩ := hown.shape; clear hown hgrow HR1 HAl HG2
     go_wp2_with (at_builtin; refine Ow.wpList_app rfl (.tmp 13) (.tmp 15) 38 rfl Tryz.underlying38 hj hj0 hj1 hj2 (by decide) Ow.shp_str rfl HO2.out rfl (HI.out.on HB2.out fun _ _ h => h) ?c2 (by decide) HB2.out.size ?_)
     case c2 => rw [<- HN.out]; simp; omega
     · intro v' w3 hown hgrow
       have HB3 := hide (HB2.out.trans (Ow.bel_grown HO2.out HB2.out.size hgrow)); have HO3 : Hid (Ow.OwnX w3 w.heap.size 9 1 StrX v' (Hr.aboveL c)) := hide (by rw [HA.out]; exact hown)
       clear hown hgrow; go_wp2_with fail; go_ret; exact ⟨_, rfl, HO3.out, HB3.out⟩
theorem Base_any (w : World) :
 Calls Tryz.prog 26 #[] w fun e w' => ∃ v, e = .returned v /\ Ow.OwnX w' w.heap.size 42 6 Hr.BasX v Hr.base /\ Below w.heap.size w w' := by
 obtain ⟨j0, hj, hj0, hj1, hj2⟩ := Ow.info_of Ow.i_cls
 have HO0 : Hid (Ow.OwnX (w.alloc (.cells #[.string ⟨#[79, 98, 106, 101, 99, 116]⟩, .bool false, .string ⟨#[]⟩, .slice none 0 0, .slice none 0 0, .slice none 0 0, .string ⟨#[69, 114, 114, 111, 114]⟩, .bool false, .string ⟨#[79, 98, 106, 101, 99, 116]⟩, .slice none 0 0, .slice none 0 0, .slice none 0 0] 42)) w.heap.size 42 6 Hr.BasX (.slice (some ⟨w.heap.size, 0, none⟩) 2 2) (Hr.base.take 2)) := hide
  ⟨_, ⟨[.string ⟨#[79, 98, 106, 101, 99, 116]⟩, .bool false, .string ⟨#[]⟩, .slice none 0 0, .slice none 0 0, .slice none 0 0], _, rfl, Hr.bas_plain (by decide) (by decide), [.string ⟨#[69, 114, 114, 111, 114]⟩, .bool false, .string ⟨#[79, 98, 106, 101, 99, 116]⟩, .slice none 0 0, .slice none 0 0, .slice none 0 0], _, rfl, Hr.bas_plain (by decide) (by decide), rfl⟩, rfl, .inr ⟨w.heap.size, 2, _, rfl, Nat.le_refl _, heap_alloc_new w _, Nat.le_refl _, by decide, rfl, rfl⟩⟩
 have HW0 := hide ((Below.refl w.heap.size w).alloc (Nat.le_refl _) (.cells #[.string ⟨#[79, 98, 106, 101, 99, 116]⟩, .bool false, .string ⟨#[]⟩, .slice none 0 0, .slice none 0 0, .slice none 0 0, .string ⟨#[69, 114, 114, 111, 114]⟩, .bool false, .string ⟨#[79, 98, 106, 101, 99, 116]⟩, .slice none 0 0, .slice none 0 0, .slice none 0 0] 42)); go_enter Tryz.func26, Tryz.ntmps26; go_wp2_with fail; have HS0 : Hid ((w.alloc (.cells #[.string ⟨#[79, 98, 106, 101, 99, 116]⟩, .bool false, .string ⟨#[]⟩, .slice none 0 0, .slice none 0 0, .slice none 0 0, .string ⟨#[69, 114, 114, 111, 114]⟩, .bool false, .string ⟨#[79, 98, 106, 101, 99, 116]⟩, .slice none 0 0, .slice none 0 0, .slice none 0 0] 42)).heap.size = w.heap.size + 1) := hide (by simp)
 generalize w.alloc (.cells #[.string ⟨#[79, 98, 106, 101, 99, 116]⟩, .bool false, .string ⟨#[]⟩, .slice none 0 0, .slice none 0 0, .slice none 0 0, .string ⟨#[69, 114, 114, 111, 114]⟩, .bool false, .string ⟨#[79, 98, 106, 101, 99, 116]⟩, .slice none 0 0, .slice none 0 0, .slice none 0 0] 42) = w0 at *
 go_loopw [1, 3] (fun v i wr => ∃ k : Nat, k <= 6 /\ i = .int .i64 k /\ Hid (Below w.heap.size w wr) /\ Hid (wr.heap[w.heap.size + 1]? = some (.cells ((Hr.subs.map fun s => Value.string ⟨s.toArray⟩).toArray) 9 (0, 0))) /\ Hid (Ow.OwnX wr w.heap.size 42 6 Hr.BasX v (Hr.base.take (2 + k)))) (fun v i _ => 6 - (intOf i).toNat)
 case atStart => exact ⟨0, Nat.zero_le _, rfl, hide (HW0.out.alloc HW0.out.size _), hide (by rw [<- HS0.out]; exact heap_alloc_new w0 _), hide (HO0.out.on ((Below.refl _ _).alloc (Nat.le_refl _) _) fun _ _ h => h)⟩
 case round =>
  obtain ⟨k, hk, rfl, HB, HT, HO⟩ := hrel; clear HO0 HW0; obtain ⟨la, lc, rfl⟩ := HO.out.shape; by_cases hlt : k < 6
  · have hlen : Hid ((Hr.base.take (2 + k)).length = 2 + k) := hide (by rw [List.length_take]; have : Hr.base.length = 8 := rfl; omega)
    obtain ⟨s, hs, hb, hsl⟩ : ∃ s, Hr.subs[k]? = some s /\ Hr.base[2 + k]? = some (Hr.plain s Hr.errN) /\ s.length <= maxLen := by
     have hcs : k = 0 \/ k = 1 \/ k = 2 \/ k = 3 \/ k = 4 \/ k = 5 := by omega
     rcases hcs with rfl | rfl | rfl | rfl | rfl | rfl <;> exact ⟨_, rfl, rfl, by decide⟩
    have HTk : Hid (Hr.base.take (2 + (k + 1)) = Hr.base.take (2 + k) ++ [Hr.plain s Hr.errN]) := hide (by rw [<- Nat.add_assoc, List.take_add_one, hb]; rfl)
    have HSl := hide hsl; have r0 := cell_box HT.out k; rw [List.getElem?_toArray, List.getElem?_map, hs] at r0; simp only [Option.map_some] at r0; have hlt' : (k : Int) < 6 := by omega
    clear hs hb hsl; generalize Hr.base.take (2 + k) = acc at *
    obtain ⟨al, hal⟩ : ∃ a, a = acc.length := ⟨_, rfl⟩; have HAl := hide hal; have HTA := hide (((Below.refl wr.heap.size wr).alloc (Nat.le_refl _) (.cells #[.string ⟨s.toArray⟩, .bool false, .string ⟨#[69, 114, 114, 111, 114]⟩, .slice none 0 0, .slice none 0 0, .slice none 0 0] 42)).block _ (Ow.lt_of_blk HT.out) |>.trans HT.out)
    have HA := hide (HB.out.alloc HB.out.size (.cells #[.string ⟨s.toArray⟩, .bool false, .string ⟨#[69, 114, 114, 111, 114]⟩, .slice none 0 0, .slice none 0 0, .slice none 0 0] 42)); have HO1 := hide (HO.out.on ((Below.refl wr.heap.size wr).alloc (Nat.le_refl _) (.cells #[.string ⟨s.toArray⟩, .bool false, .string ⟨#[69, 114, 114, 111, 114]⟩, .slice none 0 0, .slice none 0 0, .slice none 0 0] 42)) fun _ _ h => h); have HR1 := hide (Hr.row_one (sz := 6) (P := Hr.BasX) (heap_alloc_new wr (.cells #[.string ⟨s.toArray⟩, .bool false, .string ⟨#[69, 114, 114, 111, 114]⟩, .slice none 0 0, .slice none 0 0, .slice none 0 0] 42)) (Hr.bas_plain (n := s) (s := Hr.errN) HSl.out (by decide)))
    clear HO HT HB
    go_wp2_with (at_builtin; refine Ow.wpList_app rfl (.tmp 14) (.tmp 20) 22 rfl Tryz.underlying22 hj hj0 hj1 hj2 (by decide) Hr.shp_bas rfl HO1.out rfl HR1.out ?c1 (by decide) HA.out.size ?_)
    case c1 => have := hlen.out; simp; omega
    · intro v' w10 hown hgrow
      have hkx := Ow.kx_grown HO1.out hgrow; have HB10 := hide (HA.out.trans (Ow.bel_grown HO1.out HA.out.size hgrow)); have HT10 := hide (hkx.blk _ _ _ _ HTA.out (by decide))
      have HO10 : Hid (Ow.OwnX w10 w.heap.size 42 6 Hr.BasX v' (Hr.base.take (2 + (k + 1)))) := hide (by rw [HTk.out]; exact hown)
      clear hown hgrow hkx HO1 HR1 HA HTA; go_wp2_with fail
      go_roundw
      case rel => first | exact ⟨k + 1, by omega, by go_num, HB10, HT10, HO10⟩ | ((repeat apply Exists.intro); exact ⟨⟨k + 1, by omega, by go_num, HB10, HT10, HO10⟩, rfl⟩)
      case measure => simp [intOf]; omega
  · have hk6 : k = 6 := by omega
    subst hk6; have HOe : Hid (Ow.OwnX wr w.heap.size 42 6 Hr.BasX (.slice la (List.take (2 + 6) Hr.base).length lc) Hr.base) := HO; generalize (List.take (2 + 6) Hr.base).length = nl at *
    go_wp2_with fail; go_ret; exact ⟨_, rfl, HOe.out, HB.out⟩
theorem TwinProgram_any (cs : List Pp.XCls) (v : Value) (w : World) (h : ProgX w v cs) (hl : Pp.Light cs) :
 Calls Tryz.prog 51 #[.agg #[v]] w fun e w' => ∃ v', e = .returned (.agg #[v']) /\ Ow.ProgO w' w.heap.size v' cs /\ Below w.heap.size w w' := by
 have HR := hide h.1; have HZ := hide h.2; have HLc := hide hl.2; have hn := hl.1; obtain ⟨pa, pc, rfl, _⟩ := h.1.len; obtain ⟨n, hn'⟩ : ∃ n, n = cs.length := ⟨_, rfl⟩; have HN := hide hn'; rw [<- hn'] at HR hn ⊢; clear h hl hn'; obtain ⟨j0, hj, hj0, hj1, hj2⟩ := Ow.info_of Ow.i_cls
 have hx0 : (((w.alloc (.cells #[.slice pa n pc] 24)).alloc (.cells #[.slice none 0 0] 24)).alloc (.cells #[.slice none 0 0] 24)).heap[w.heap.size]? = some (.cells #[.slice pa n pc] 24 (0, 0)) :=
  (((Below.refl _ _).alloc (Nat.le_refl _) _).block w.heap.size (by simp; omega)).trans (Ow.blk_alloc2a w _ _)
 have hx1 : (((w.alloc (.cells #[.slice pa n pc] 24)).alloc (.cells #[.slice none 0 0] 24)).alloc (.cells #[.slice none 0 0] 24)).heap[w.heap.size + 1]? = some (.cells #[.slice none 0 0] 24 (0, 0)) :=
  (((Below.refl _ _).alloc (Nat.le_refl _) _).block (w.heap.size + 1) (by simp)).trans (Ow.blk_alloc2b w _ _)
 have hx2 : (((w.alloc (.cells #[.slice pa n pc] 24)).alloc (.cells #[.slice none 0 0] 24)).alloc (.cells #[.slice none 0 0] 24)).heap[w.heap.size + 2]? = some (.cells #[.slice none 0 0] 24 (0, 0)) := by
  have := heap_alloc_new ((w.alloc (.cells #[.slice pa n pc] 24)).alloc (.cells #[.slice none 0 0] 24)) (.cells #[.slice none 0 0] 24)
  simpa using this
 have HB0 := hide (Ow.bel_alloc2 w (.cells #[.slice pa n pc] 24) (.cells #[.slice none 0 0] 24) |>.alloc (by simp; omega) (.cells #[.slice none 0 0] 24))
 go_enter Tryz.func51, Tryz.ntmps51; go_wp2_with fail; generalize (((w.alloc (.cells #[.slice pa n pc] 24)).alloc (.cells #[.slice none 0 0] 24)).alloc (.cells #[.slice none 0 0] 24)) = w0 at *
 have hs2 : w.heap.size + 2 < w0.heap.size := Ow.lt_of_blk hx2; have HC : Hid (∀ wx, Below (w.heap.size + 2) w0 wx -> wx.heap[w.heap.size]? = some (.cells #[.slice pa n pc] 24 (0, 0)) /\ wx.heap[w.heap.size + 1]? = some (.cells #[.slice none 0 0] 24 (0, 0))) := hide fun wx hb => ⟨(hb.block _ (by omega)).trans hx0, (hb.block _ (by omega)).trans hx1⟩
 have HX2 := hide hx2; clear hx0 hx1 hx2
 go_loopw [4] (fun i wr => ∃ (k : Nat) (acc : List Pp.XCls) (la : Option Addr) (lc : Nat), k <= n /\ i = .int .i64 k /\ Hid (Below (w.heap.size + 2) w0 wr) /\ Hid (wr.heap[w.heap.size + 2]? = some (.cells #[.slice la acc.length lc] 24 (0, 0))) /\ Hid (Ow.OwnX wr w0.heap.size 42 6 (Ow.ClsO wr w0.heap.size) (.slice la acc.length lc) acc) /\ Hid (acc = cs.take k)) (fun i _ => n - (intOf i).toNat)
 case atStart => exact ⟨0, [], none, 0, Nat.zero_le _, rfl, hide (Below.refl _ _), HX2, hide (Ow.OwnX.nil _ _ _ _ _), hide rfl⟩
 case round =>
  obtain ⟨k, acc, la, lc, hk, rfl, HBr, HTr, HO, HAc⟩ := hrel; clear HX2; have q0 := cell_box (HC.out wr HBr.out).1 0; have hsr := HBr.out.size; by_cases hlt : k < n
  · obtain ⟨x, hx⟩ : ∃ x, cs[k]? = some x := ⟨cs[k]'(by rw [<- HN.out]; exact hlt), List.getElem?_eq_getElem _⟩
    obtain ⟨g1, o1, eg1, ys1, w1', hc1⟩ := Ow.row_at HR.out hx; subst eg1; have HBw := hide (HB0.out.trans (HBr.out.mono (by omega)))
    have HCx := hide (hc1 wr.drew (HBw.out.trans ((Below.drew (Below.refl _ _)).mono HBw.out.size))); have HM := hide (fun wy (hb : Below wr.heap.size wr wy) => TwinClass_any x ys1 wy (w1'.on (HBw.out.trans (hb.mono HBw.out.size))) (HLc.out x (List.mem_of_getElem? hx))); have HTk : Hid (acc ++ [x] = cs.take (k + 1)) := hide (by rw [HAc.out, List.take_add_one, hx]; rfl)
    have HLn : Hid (acc.length <= 14) := hide (by rw [HAc.out, List.length_take]; omega)
    obtain ⟨vp, vc, vk, rfl, x1, x2, x3, _⟩ := w1'; obtain ⟨va1, vd1, rfl, _⟩ := x1.len; obtain ⟨va2, vd2, rfl, _⟩ := x2.len; obtain ⟨va3, vd3, rfl, _⟩ := x3.len; have r0 := HCx.out 0 _ rfl; have r1 := HCx.out 1 _ rfl; have r2 := HCx.out 2 _ rfl; have r3 := HCx.out 3 _ rfl; have r4 := HCx.out 4 _ rfl; have r5 := HCx.out 5 _ rfl; rw [Nat.add_zero] at r0; have hlt' : (k : Int) < (n : Int) := by omega
    have hn1 : (n : Int) <= 14 := by omega
    have HDr : Hid (Below wr.heap.size wr wr.drew) := hide (Below.drew (Below.refl _ _)); have HT9 : Hid (∀ wy, Below wr.heap.size wr wy -> wy.heap[w.heap.size + 2]? = some (.cells #[.slice la acc.length lc] 24 (0, 0))) := hide fun wy hb => (hb.block _ (Ow.lt_of_blk HTr.out)).trans HTr.out; have t0 := cell_box HTr.out 0; obtain ⟨ln, hln⟩ : ∃ q, q = acc.length := ⟨_, rfl⟩; have HLN := hide hln; rw [<- hln] at t0; clear hc1 hx x1 x2 x3 HCx HAc hln; simp only [clsXL] at HM; go_wp2_with fail
    go_region_law (first
     | (refine Ow.step_app rfl (.tmp 13) (.tmp 20) 22 rfl Tryz.underlying22 hj hj0 hj1 hj2 (by decide) Ow.shp_cls (by first | rfl | simp [Act.eval, Act.put]) HO1.out (by first | rfl | simp [Act.eval, Act.put]) HR1.out (by have := HLn.out; simp; omega) (by decide) hszA ?_
        intro v' w10 hown hgrow; obtain ⟨xa, xc, hv'⟩ := hown.shape; obtain ⟨nr, hnr⟩ : ∃ q, q = (acc ++ [x]).length := ⟨_, rfl⟩; have HNr := hide hnr; rw [<- hnr] at hv'; clear hnr; subst hv'; have hkx := Ow.kx_grown HO1.out hgrow; have HB10 := hide (HA.out.trans ((Ow.bel_grown HO1.out hszA hgrow).mono (by omega)))
        have HO10 : Hid (Ow.OwnX w10 w0.heap.size 42 6 (Ow.ClsO w10 w0.heap.size) (.slice xa nr xc) (acc ++ [x])) := hide (hown.low (Nat.le_refl _) fun _ _ h => h.kx hkx (by decide) (by decide) (by decide) (by decide) (by decide) (by decide))
        have HT10 := hide (hkx.blk _ _ _ _ HTA.out (by decide))
        have f10 := Ow.fz_blk HT10.out 0; have t10 := cell_box HT10.out 0
        clear hown hgrow hkx HO1 HR1 HA HTA)
     | (go_simp
        refine (HM.out _ HDr.out).mono ?_; rintro e w9 ⟨ys', rfl, ho9, hb9⟩; obtain ⟨wp, wc, wk, rfl, q1, q2, q3, q4⟩ := ho9; have hMO : Ow.ClsO w9 w0.heap.size x (clsXL x wp wc wk) := Ow.ClsO.on ⟨wp, wc, wk, rfl, q1, q2, q3, q4⟩ (Below.refl _ _) (Nat.le_trans HBr.out.size HDr.out.size); have hB9 := HDr.out.trans (hb9.mono HDr.out.size); have hA : Below wr.heap.size wr (w9.alloc (.cells (clsXL x wp wc wk).toArray 42)) := hB9.trans (((Below.refl _ _).alloc (Nat.le_refl _) _).mono hB9.size); have HR1 : Hid (RowX (w9.alloc (.cells (clsXL x wp wc wk).toArray 42)) 6 (Ow.ClsO (w9.alloc (.cells (clsXL x wp wc wk).toArray 42)) w0.heap.size) (.slice (some ⟨w9.heap.size, 0, none⟩) 1 1) [x]) := hide (Ow.row_one (hMO.on ((Below.refl _ _).alloc (Nat.le_refl _) _) (Nat.le_refl _))); have HO1 : Hid (Ow.OwnX (w9.alloc (.cells (clsXL x wp wc wk).toArray 42)) w0.heap.size 42 6 (Ow.ClsO (w9.alloc (.cells (clsXL x wp wc wk).toArray 42)) w0.heap.size) (.slice la ln lc) acc) := hide (by rw [HLN.out]; exact HO.out.on hA fun _ _ h => h.on hA (Nat.le_refl _))
        have HTA := hide (HT9.out _ hA); have hszA := Nat.le_trans hsr hA.size; have HA := hide (HBr.out.trans (hA.mono (by omega)))
        have t9 := cell_box (HT9.out _ hB9) 0; rw [<- HLN.out] at t9; obtain ⟨ua1, ud1, rfl⟩ := q1.shape; obtain ⟨ua2, ud2, rfl⟩ := q2.shape; obtain ⟨ua3, ud3, rfl⟩ := q3.shape; clear hMO q1 q2 q3 q4 hb9 hB9 hA HM; simp only [clsXL] at HR1 HO1 HA HTA ⊢; have t9a := cell_box HTA.out 0
        rw [<- HLN.out] at t9a))
    all_goals
     have hP := Ow.blk_put HT10.out 0 (.slice xa nr xc); have hK2 : Ow.Kx 24 w10 (w10.setCell ⟨w.heap.size + 2, 0, none⟩ (.slice xa nr xc)) := Ow.Kx.set ⟨_, _, HT10.out⟩ 0 (.slice xa nr xc); have HBz := hide (HB10.out.trans ((Below.refl _ _).setCell (p := ⟨w.heap.size + 2, 0, none⟩) (Nat.le_refl _) (.slice xa nr xc))); have HTz : Hid ((w10.setCell ⟨w.heap.size + 2, 0, none⟩ (.slice xa nr xc)).heap[w.heap.size + 2]? = some (.cells #[.slice xa nr xc] 24 (0, 0))) := hide hP; have HOz := hide (HO10.out.kx hK2 (by decide) fun _ _ h => h.kx hK2 (by decide) (by decide) (by decide) (by decide) (by decide) (by decide))
     clear hP hK2; go_wp2_with fail
     go_roundw
     case rel =>
      refine ⟨k + 1, acc ++ [x], xa, xc, by omega, by go_num, ?_, ?_, ?_, HTk⟩
      · exact HBz
      · rw [<- HNr.out]; exact HTz
      · rw [<- HNr.out]; exact HOz
     case measure => simp [intOf]; omega
  · have HE : Hid (acc = cs) := hide (by rw [HAc.out, List.take_of_length_le (by rw [<- HN.out]; omega)])
    have hnl : ¬ ((k : Int) < (n : Int)) := by omega
    have t0 := cell_box HTr.out 0; have s0 := cell_box (HC.out wr HBr.out).2 0; have f0 := Ow.fz_blk (HC.out wr HBr.out).2 0; have hw0 : w.heap.size <= w0.heap.size := by omega
    have hB : Below w.heap.size w wr := HB0.out.trans (HBr.out.mono (by omega))
    have HPt := hide (hB.trans ((Below.refl _ _).setCell (p := ⟨w.heap.size + 1, 0, none⟩) (Nat.le_succ _) (.slice la acc.length lc))); have hK : Ow.Kx 24 wr (wr.setCell ⟨w.heap.size + 1, 0, none⟩ (.slice la acc.length lc)) := Ow.Kx.set ⟨_, _, (HC.out wr HBr.out).2⟩ 0 (.slice la acc.length lc); have HOz := hide ((HO.out.kx hK (by decide) fun _ _ h => h.kx hK (by decide) (by decide) (by decide) (by decide) (by decide) (by decide)).low (base' := w.heap.size) hw0 fun _ _ h => h.on (Below.refl _ _) hw0)
    clear hB hK HAc HTr HBr HC HO; obtain ⟨m, hm⟩ : ∃ q, q = acc.length := ⟨_, rfl⟩; have HMx := hide hm; rw [<- hm] at t0 HPt HOz; clear hm; go_wp2_with fail; refine bodyPost_ret (v := .agg #[.slice la m lc]) (by simp [results, Tryz.results51, go_sem, *]) rfl ?_
    refine ⟨_, rfl, ⟨?_, HZ.out⟩, HPt.out⟩; have := HOz.out; rw [HE.out] at this; exact this
theorem Hr.fld_prog (w : World) (a : Option Addr) (n c : Nat) : (Instr.field 24 (.agg #[.slice a n c]) 0).run Tryz.prog w = .ok (.slice a n c) w := by kernel_rfl
theorem RAll_any (cs : List Pp.XCls) (v : Value) (w : World) (h : ProgX w v cs) (hl : Pp.Light cs) :
 Calls Tryz.prog 25 #[.agg #[v]] w fun e w' => ∃ v', e = .returned v' /\ Ow.OwnX w' w.heap.size 42 6 (Ow.ClsO w' w.heap.size) v' (Hr.allL cs) /\ Below w.heap.size w w' := by
 obtain ⟨j0, hj, hj0, hj1, hj2⟩ := Ow.info_of Ow.i_cls; have HT := hide (fun wx (hb : Below w.heap.size w wx) => TwinProgram_any cs v wx (h.on hb) hl); have hn := hl.1; obtain ⟨pa, pc, rfl, _⟩ := h.1.len; have HL : Hid (Hr.base.length + cs.length <= 1000000) := hide (by show 8 + cs.length <= 1000000; omega)
 obtain ⟨n, hn'⟩ : ∃ n, n = cs.length := ⟨_, rfl⟩; have HN := hide hn'; rw [<- hn'] at HT hn ⊢; clear h hl hn'; have hx0 := hide (heap_alloc_new w (.cells #[.slice pa n pc] 24)); have HB0 := hide ((Below.refl w.heap.size w).alloc (Nat.le_refl _) (.cells #[.slice pa n pc] 24)); go_enter Tryz.func25, Tryz.ntmps25; go_wp2_with fail; generalize w.alloc (.cells #[.slice pa n pc] 24) = w0 at *
 have HC := hide (fun wx (hb : Below w0.heap.size w0 wx) => cell_box ((hb.block _ (Ow.lt_of_blk hx0.out)).trans hx0.out) 0); have HD : Hid (Below w0.heap.size w0 w0.drew) := hide (Below.drew (Below.refl _ _)); have HW : Hid (∀ wx, Below w0.heap.size w0 wx -> Below w.heap.size w wx) := hide fun wx hb => HB0.out.trans (hb.mono HB0.out.size); have c0 := HC.out w0 (Below.refl _ _); have cd := HC.out _ HD.out; clear hx0; have hfd := Hr.fld_prog
 go_region_law (first
  | (refine Ow.step_app rfl (.tmp 3) (.tmp 6) 22 rfl Tryz.underlying22 hj hj0 hj1 hj2 (by decide) Ow.shp_cls (by first | rfl | simp [Act.eval, Act.put]) HO1.out (by first | rfl | simp [Act.eval, Act.put]) HR1.out HL.out (by decide) (HW.out _ HB1.out).size ?_
     intro v' w9 hown hgrow; have HB9 := hide ((HW.out _ HB1.out).trans (Ow.bel_grown HO1.out (HW.out _ HB1.out).size hgrow)); have HO9 : Hid (Ow.OwnX w9 w.heap.size 42 6 (Ow.ClsO w9 w.heap.size) v' (Hr.allL cs)) := hide (hown.low (Nat.le_refl _) fun _ _ h => h.kx (Ow.kx_grown HO1.out hgrow) (by decide) (by decide) (by decide) (by decide) (by decide) (by decide))
     clear hown hgrow HO1 HR1)
  | (go_simp
     refine (Base_any _).mono ?_; rintro e wb ⟨vb, rfl, hob, hbb⟩
     first
      | (have HBb := hide (HD.out.trans (hbb.mono HD.out.size))
         have HOb := hide (hob.low (base' := w.heap.size) (HW.out _ HD.out).size fun _ _ h => h); have cb := HC.out _ HBb.out
         clear hob hbb)
      | (have HB1 := hide (HBt.out.trans (hbb.mono HBt.out.size))
         have HO1 : Hid (Ow.OwnX wb w.heap.size 42 6 (Ow.ClsO wb w.heap.size) vb Hr.base) := hide (hob.low (HW.out _ HBt.out).size fun _ _ h => h.o _ _); have HR1 : Hid (RowX wb 6 (Ow.ClsO wb w.heap.size) (.slice ta cs.length tc) cs) := hide ((HPt.out.1.on hbb fun _ _ h => h.on hbb (Nat.le_refl _)).row Ow.shp_cls fun _ _ h => h)
         clear hob hbb))
  | (go_simp
     first
      | (refine (HT.out _ (HW.out _ HD.out)).mono ?_
         rintro e wt ⟨vt, rfl, hpt, hbt⟩; obtain ⟨ta, tc, rfl⟩ := hpt.1.shape; have HBt := hide (HD.out.trans (hbt.mono HD.out.size)); have HPt : Hid (Ow.ProgO wt w.heap.size (.slice ta cs.length tc) cs) := hide (hpt.on (Below.refl _ _) (HW.out _ HD.out).size)
         clear hpt hbt)
      | (refine (HT.out _ (HW.out _ HBb.out)).mono ?_
         rintro e wt ⟨vt, rfl, hpt, hbt⟩; obtain ⟨ta, tc, rfl⟩ := hpt.1.shape; have HB1 := hide (HBb.out.trans (hbt.mono HBb.out.size)); have HO1 : Hid (Ow.OwnX wt w.heap.size 42 6 (Ow.ClsO wt w.heap.size) vb Hr.base) := hide (HOb.out.on hbt fun _ _ h => h.o _ _); have HR1 : Hid (RowX wt 6 (Ow.ClsO wt w.heap.size) (.slice ta cs.length tc) cs) := hide ((hpt.on (Below.refl _ _) (HW.out _ HBb.out).size).1.row Ow.shp_cls fun _ _ h => h)
         clear hpt hbt)))
 all_goals
  go_wp2_with fail; go_ret; exact ⟨_, rfl, HO9.out, HB9.out⟩
end Go.Proofs.YtbbbnciejmdpfaaGreatDoor

/- What the laws of this seat lean on: 2 texts. -/
import Derived.Test.YtbbbnciejmdpfabGreatDoorPkBf
set_option maxRecDepth 100000
set_option maxHeartbeats 64000000
set_option linter.unusedVariables false
set_option linter.unusedSimpArgs false
namespace Go.Proofs.YtbbbnciejmdpfabGreatDoor
namespace Ly
open Pp Hr
theorem look_iff {x : Nat} : ∀ (more acc : List Nat), x ∈ lookL acc more ↔ x ∈ acc \/ x ∈ more
 | [], acc => by show x ∈ acc ↔ _; simp
 | b :: r, acc => by
   show x ∈ lookL (if b ∈ acc then acc else acc ++ [b]) r ↔ _
   rw [look_iff r]
   split
   · rename_i h
     simp; constructor
     · rintro (h1 | h1)
       · exact .inl h1
       · exact .inr (.inr h1)
     · rintro (h1 | rfl | h1)
       · exact .inl h1
       · exact .inl h
       · exact .inr h1
   · simp [or_assoc]
def rowF (l : List XCls) : Nat -> Nat -> List Nat
 | 0, _ => []
 | n + 1, k => k :: (match superL (clP l k) with
   | none => []
   | some s => match placeL l s with
     | none => []
     | some q => rowF l n q)
def rowP (l : List XCls) (up : List (List Nat)) (k : Nat) : List Nat := rowF l (rkP up k + 1) k
section
variable {cs : List XCls} {up : List (List Nat)}
theorem not_ring (he : errL cs = 0) (hg : growL (allL cs) (allL cs) = some up) : ¬ Ring up := by
 obtain ⟨_, _, up', h1, h2⟩ := err_zero he; rw [hg] at h1; injection h1 with h1; subst h1; exact h2
theorem super_at (he : errL cs = 0) (hg : growL (allL cs) (allL cs) = some up) {k : Nat} (hk : k < (allL cs).length) {s : Bs} (hs : superL (clP (allL cs) k) = some s) : ∃ q, placeL (allL cs) s = some q /\ q < (allL cs).length /\ (clP (allL cs) q).name = s /\ (clP (allL cs) q).iface = false /\ rkP up q < rkP up k := by
 obtain ⟨q, d, h1, h2, h3, h4, h5, h6⟩ := super_step hg (at_of hk) hs; refine ⟨q, h1, h6, by rw [clP_at h2]; exact h3, by rw [clP_at h2]; exact h4, rk_lt hg (not_ring he hg) h5⟩
theorem rowF_eq (he : errL cs = 0) (hg : growL (allL cs) (allL cs) = some up) : ∀ n m k, k < (allL cs).length -> rkP up k < n -> rkP up k < m -> rowF (allL cs) n k = rowF (allL cs) m k
 | n + 1, m + 1, k, hk, h1, h2 => by
   unfold rowF; cases hs : superL (clP (allL cs) k) with
   | none => rfl
   | some s =>
     obtain ⟨q, e1, e2, _, _, e3⟩ := super_at he hg hk hs; simp only [e1]; rw [rowF_eq he hg n m q e2 (by omega) (by omega)]
theorem row_none (he : errL cs = 0) (hg : growL (allL cs) (allL cs) = some up) {k : Nat} (hs : superL (clP (allL cs) k) = none) : rowP (allL cs) up k = [k] := by
 unfold rowP rowF; rw [hs]
theorem row_some (he : errL cs = 0) (hg : growL (allL cs) (allL cs) = some up) {k q : Nat} (hk : k < (allL cs).length) {s : Bs} (hs : superL (clP (allL cs) k) = some s) (hq : placeL (allL cs) s = some q) : rowP (allL cs) up k = k :: rowP (allL cs) up q := by
 obtain ⟨q', e1, e2, _, _, e3⟩ := super_at he hg hk hs; rw [hq] at e1; injection e1 with e1; subst e1; unfold rowP; rw [rowF]; simp only [hs, hq]; rw [rowF_eq he hg (rkP up k) (rkP up q + 1) q e2 e3 (Nat.lt_succ_self _)]
theorem row_lt (he : errL cs = 0) (hg : growL (allL cs) (allL cs) = some up) : ∀ n k, k < (allL cs).length -> rkP up k < n -> (rowP (allL cs) up k).length <= rkP up k + 1 /\ ∀ z ∈ rowP (allL cs) up k, z < (allL cs).length
 | n + 1, k, hk, hn => by
   cases hs : superL (clP (allL cs) k) with
   | none =>
     rw [row_none he hg hs]; exact ⟨by simp, fun z hz => by simp at hz; omega⟩
   | some s =>
     obtain ⟨q, e1, e2, _, _, e3⟩ := super_at he hg hk hs; rw [row_some he hg hk hs e1]; obtain ⟨h1, h2⟩ := row_lt he hg n q e2 (by omega)
     refine ⟨by simp; omega, fun z hz => ?_⟩
     rcases List.mem_cons.1 hz with rfl | hz
     · exact hk
     · exact h2 z hz
theorem base_bare {k : Nat} (hk : k < 8) : (clP (allL cs) k).fields = [] /\ (clP (allL cs) k).methods = [] /\ (clP (allL cs) k).iface = false := by
 obtain ⟨x, h1, h2, h3, h4, h5⟩ := base_at hk; rw [clP_at (all_base hk |>.trans h1)]
 exact ⟨h4, h5, h2⟩
theorem top_sup (he : errL cs = 0) : supP (allL cs) 0 = none := place_nil (err_zero he).1
theorem sup_top (he : errL cs = 0) (hg : growL (allL cs) (allL cs) = some up) {k : Nat} (hk : k < (allL cs).length) (hs : supP (allL cs) k = none) {s : Bs} (h : superL (clP (allL cs) k) = some s) : placeL (allL cs) s = some 0 := by
 have h1 := sup_none he hg hk hs; unfold superL at h
 split at h
 · cases h
 · first | rw [h1, if_pos rfl] at h | skip
   injection h with h; subst h; exact place_top
theorem sl_top (he : errL cs = 0) (hg : growL (allL cs) (allL cs) = some up) (hk : 0 < (allL cs).length) : (pnet (allL cs) up).sl 0 = [] := by
 rw [(pnet_good he hg).sl 0 hk]; have : (pnet (allL cs) up).sup 0 = none := top_sup he; rw [this]
 rfl
theorem mt_top (he : errL cs = 0) (hg : growL (allL cs) (allL cs) = some up) (hk : 0 < (allL cs).length) : (pnet (allL cs) up).mt 0 = [] := by
 rw [(pnet_good he hg).mt 0 hk]; have : (pnet (allL cs) up).sup 0 = none := top_sup he; rw [this]
 rfl
theorem row_slots (he : errL cs = 0) (hg : growL (allL cs) (allL cs) = some up) : ∀ n k, k < (allL cs).length -> rkP up k < n ->
 (rowP (allL cs) up k).reverse.flatMap (fun q => ownL (clP (allL cs) q) false (clP (allL cs) q).fields) = (pnet (allL cs) up).sl k /\
 (rowP (allL cs) up k).flatMap (fun q => Net.ownM (clP (allL cs) q)) = (pnet (allL cs) up).mt k
 | n + 1, k, hk, hn => by
   have hG := pnet_good he hg; rw [hG.sl k hk, hG.mt k hk]; have hcl : (pnet (allL cs) up).cl k = clP (allL cs) k := rfl; have hsp : (pnet (allL cs) up).sup k = supP (allL cs) k := rfl; rw [hcl, hsp]; cases hs : superL (clP (allL cs) k) with
   | none =>
     rw [row_none he hg hs]
     have h0 : supP (allL cs) k = none := by
      cases h : supP (allL cs) k with
      | none => rfl
      | some q =>
        have := (sup_step he hg hk h).1; rw [hs] at this; cases this
     rw [h0]; simp
   | some s =>
     obtain ⟨q, e1, e2, _, _, e3⟩ := super_at he hg hk hs; rw [row_some he hg hk hs e1, List.reverse_cons, List.flatMap_append]; simp only [List.flatMap_cons, List.flatMap_nil]; obtain ⟨i1, i2⟩ := row_slots he hg n q e2 (by omega)
     rw [i1, i2]; cases hp : supP (allL cs) k with
     | none =>
       have hq := sup_top he hg hk hp hs; rw [e1] at hq; injection hq with hq; subst hq; rw [sl_top he hg e2, mt_top he hg e2]; simp
     | some z =>
       have h1 := (sup_step he hg hk hp).1; rw [hs] at h1; injection h1 with h1; unfold supP at hp; rw [<- h1, e1] at hp; injection hp with hp; subst hp; simp
theorem row_len (he : errL cs = 0) (hg : growL (allL cs) (allL cs) = some up) {k : Nat} (hk : k < (allL cs).length) : (rowP (allL cs) up k).length <= 19 := by
 have h1 := (row_lt he hg _ k hk (Nat.lt_succ_self _)).1; have h2 := rk_le up k; have h3 := growL_len hg; have h4 := ((eachB_iff cs 10 clsB).1 (err_zero he).1).1; have h5 := all_len cs; have h6 : base.length = 8 := rfl; omega
theorem ab_far (he : errL cs = 0) (hg : growL (allL cs) (allL cs) = some up) : ∀ n k, k < (allL cs).length -> rkP up k < n -> ∀ z, z ∈ (pnet (allL cs) up).ab k ↔ (clP (allL cs) z).iface = true /\ (z = k \/ Far up k z)
 | n + 1, k, hk, hn, z => by
   have hG := pnet_good he hg
   have hm : ∀ (l : List Nat) (a : List Nat), z ∈ l.foldl (fun a i => lookL a ((pnet (allL cs) up).ab i)) a ↔ z ∈ a \/ ∃ i ∈ l, z ∈ (pnet (allL cs) up).ab i := fun l => by
    induction l with
    | nil => intro a; simp
    | cons i l ih =>
      intro a; rw [List.foldl_cons, ih, look_iff]; constructor
      · rintro ((h | h) | ⟨j, h1, h2⟩)
        · exact .inl h
        · exact .inr ⟨i, by simp, h⟩
        · exact .inr ⟨j, List.mem_cons_of_mem _ h1, h2⟩
      · rintro (h | ⟨j, h1, h2⟩)
        · exact .inl (.inl h)
        · rcases List.mem_cons.1 h1 with rfl | h1
          · exact .inl (.inr h2)
          · exact .inr ⟨j, h1, h2⟩
   have hsp : (pnet (allL cs) up).sup k = supP (allL cs) k := rfl
   have h0 : z ∈ (pnet (allL cs) up).ab0 k (ifsP (allL cs) k) ↔ (z = k /\ (clP (allL cs) k).iface = true) \/ ∃ i ∈ ifsP (allL cs) k, (clP (allL cs) z).iface = true /\ (z = i \/ Far up i z) := by
    unfold Net.ab0; rw [hm]
    have e1 : z ∈ (if ((pnet (allL cs) up).cl k).iface = true then [k] else []) ↔ z = k /\ (clP (allL cs) k).iface = true := by
     show z ∈ (if (clP (allL cs) k).iface = true then [k] else []) ↔ _
     split
     · rename_i h; simp [h]
     · rename_i h; simp [h]
    rw [e1]; constructor
    · rintro (h | ⟨i, h1, h2⟩)
      · exact .inl h
      · obtain ⟨q1, q2⟩ := hG.ifs k i hk h1
        exact .inr ⟨i, h1, (ab_far he hg n i q1 (by have : rkP up i < rkP up k := q2; omega) z).1 h2⟩
    · rintro (h | ⟨i, h1, h2⟩)
      · exact .inl h
      · obtain ⟨q1, q2⟩ := hG.ifs k i hk h1
        exact .inr ⟨i, h1, (ab_far he hg n i q1 (by have : rkP up i < rkP up k := q2; omega) z).2 h2⟩
   have hstep : ∀ j, Step up k j -> j ∈ ifsP (allL cs) k \/ supP (allL cs) k = some j \/ (supP (allL cs) k = none /\ j = 0) := by
    rintro j ⟨u, hu, hj⟩; obtain ⟨u', hu', huc⟩ := growL_at hg (at_of hk); rw [hu] at hu'; injection hu' with hu'; subst hu'; obtain ⟨y, hy, e⟩ := (ups_names huc).2 j hj; unfold aboveL at hy
    rcases List.mem_append.1 hy with hy | hy
    · cases hsl : superL (clP (allL cs) k) with
      | none => rw [hsl] at hy; cases hy
      | some s =>
        rw [hsl] at hy; simp at hy; subst hy; cases hp : supP (allL cs) k with
        | none =>
          have := sup_top he hg hk hp hsl; rw [e] at this; injection this with this; exact .inr (.inr ⟨rfl, this⟩)
        | some q =>
          have h1 := (sup_step he hg hk hp).1; rw [hsl] at h1; injection h1 with h1; unfold supP at hp; rw [<- h1, e] at hp; exact .inr (.inl hp.symm)
    · exact .inl (List.mem_filterMap.2 ⟨y, hy, e⟩)
   have hfar : ∀ {i j : Nat}, Far up i j -> ∃ m, Step up i m /\ (j = m \/ Far up m j) := by
    intro i j h; refine Far.ind (C := fun i j => ∃ m, Step up i m /\ (j = m \/ Far up m j)) (fun s => ⟨_, s, .inl rfl⟩) (fun _ s ih => ?_) h; obtain ⟨m, h1, h2⟩ := ih; refine ⟨m, h1, .inr ?_⟩
    rcases h2 with rfl | h2
    · exact .one s
    · exact .more h2 s
   have htop : ∀ z, ¬ Far up 0 z := by
    intro z h; obtain ⟨m, ⟨u, hu, hm⟩, _⟩ := hfar h; have := up_top hg; rw [this] at hu; injection hu with hu; subst hu; cases hm
   have hi0 : (clP (allL cs) 0).iface = false := rfl; have hsf : ∀ j, j ∈ ifsP (allL cs) k -> Step up k j := fun j hj => (ifs_step hg hk hj).1; rw [hG.ab k hk, hsp]; cases hp : supP (allL cs) k with
   | none =>
     show z ∈ (pnet (allL cs) up).ab0 k (ifsP (allL cs) k) ↔ _; rw [h0]; constructor
     · rintro (⟨rfl, h⟩ | ⟨i, h1, h2, h3⟩)
       · exact ⟨h, .inl rfl⟩
       · refine ⟨h2, .inr ?_⟩
         rcases h3 with rfl | h3
         · exact .one (hsf _ h1)
         · exact (Far.one (hsf _ h1)).trans h3
     · rintro ⟨h1, rfl | h2⟩
       · exact .inl ⟨rfl, h1⟩
       · obtain ⟨m, e1, e2⟩ := hfar h2
         rcases hstep m e1 with e3 | e3 | ⟨_, rfl⟩
         · exact .inr ⟨m, e3, h1, e2⟩
         · rw [hp] at e3; cases e3
         · rcases e2 with rfl | e2
           · rw [hi0] at h1; cases h1
           · exact absurd e2 (htop z)
   | some s =>
     show z ∈ lookL ((pnet (allL cs) up).ab0 k (ifsP (allL cs) k)) ((pnet (allL cs) up).ab s) ↔ _; obtain ⟨q1, q2⟩ := hG.sup k s hk hp; have hss := (sup_step he hg hk hp).2.1; rw [look_iff, h0, ab_far he hg n s q1 (by have : rkP up s < rkP up k := q2; omega) z]
     constructor
     · rintro ((⟨rfl, h⟩ | ⟨i, h1, h2, h3⟩) | ⟨h2, h3⟩)
       · exact ⟨h, .inl rfl⟩
       · refine ⟨h2, .inr ?_⟩
         rcases h3 with rfl | h3
         · exact .one (hsf _ h1)
         · exact (Far.one (hsf _ h1)).trans h3
       · refine ⟨h2, .inr ?_⟩
         rcases h3 with rfl | h3
         · exact .one hss
         · exact (Far.one hss).trans h3
     · rintro ⟨h1, rfl | h2⟩
       · exact .inl (.inl ⟨rfl, h1⟩)
       · obtain ⟨m, e1, e2⟩ := hfar h2
         rcases hstep m e1 with e3 | e3 | ⟨e3, _⟩
         · exact .inl (.inr ⟨m, e3, h1, e2⟩)
         · rw [hp] at e3
           injection e3 with e3; subst e3; exact .inr ⟨h1, e2⟩
         · rw [hp] at e3; cases e3
end
end Ly
namespace Ly
open Pp Hr
def mOkG (c : XCls) (m : XMth) : Bool := !((c.iface && (!m.abst || m.stat)) || (!c.iface && m.abst)) && m.params.all fun t => t.kind != 1
def fOkG (c : XCls) (f : Fld) : Bool := !(c.iface || f.ty.kind == 1)
def namedG (l : List XCls) (t : Ty) : Bool := (t.kind != 3 && t.kind != 5) || (placeL l t.name).isSome
def mNamG (l : List XCls) (m : XMth) : Bool := namedG l m.ret && m.params.all (namedG l)
def memG (l : List XCls) (c : XCls) : Int :=
 if c.methods.all (mOkG c) = true /\ c.fields.all (fOkG c) = true then (if (c.fields.map (·.name)).Nodup /\ (c.methods.map (·.name)).Nodup then (if c.fields.all (fun f => namedG l f.ty) = true /\ c.methods.all (mNamG l) = true then 0 else 5) else 6) else 4
theorem all_congr {α : Type} {p q : α -> Bool} : ∀ {l : List α}, (∀ x ∈ l, p x = q x) -> l.all p = l.all q
 | [], _ => rfl
 | a :: l, h => by rw [List.all_cons, List.all_cons, h a (by simp), all_congr fun x hx => h x (List.mem_cons_of_mem _ hx)]
theorem formG_eq (c : XCls) : (c.methods.all (mOkG c) = true /\ c.fields.all (fOkG c) = true) ↔ formedB c = true := by
 unfold formedB fldsOk; rw [Bool.and_eq_true, Bool.and_eq_true]
 have h1 : c.methods.all (mOkG c) = c.methods.all (mthOk c) := all_congr fun m _ => by
  unfold mOkG mthOk; cases c.iface <;> cases m.abst <;> cases m.stat <;> simp
 rw [h1]; cases hi : c.iface with
 | true =>
   have h2 : c.fields.all (fOkG c) = decide (c.fields = []) := by
    cases c.fields with
    | nil => rfl
    | cons f fs => rw [List.all_cons]; unfold fOkG; rw [hi]; simp
   rw [h2]; cases c.fields with
   | nil => simp
   | cons f fs => simp
 | false =>
   have h2 : c.fields.all (fOkG c) = c.fields.all (fun f => f.ty.kind != 1) := all_congr fun f _ => by unfold fOkG; rw [hi]; rfl
   rw [h2]; simp [and_comm]
theorem named_ty {t : Ty} (l : List XCls) (h : typeB t = true) : namedG l t = knownT l t := by
 unfold typeB at h; unfold namedG knownT
 split at h
 · rename_i hk
   have hn : t.name = [] := by simpa using h
   rw [hn]
   rcases hk with hk | hk | hk <;> rw [hk] <;> simp
 · split at h
   · rename_i hk
     have hne := fresh_ne h; have hne' : (t.name == []) = false := by simpa using hne
     rw [hne']
     rcases hk with hk | hk <;> rw [hk] <;> simp
   · cases h
def tyd (c : XCls) : Prop := (∀ f ∈ c.fields, typeB f.ty = true) /\ ∀ m ∈ c.methods, typeB m.ret = true /\ ∀ t ∈ m.params, typeB t = true
theorem knownG_eq {c : XCls} (l : List XCls) (h : tyd c) : (c.fields.all (fun f => namedG l f.ty) = true /\ c.methods.all (mNamG l) = true) ↔ knownB l c = true := by
 unfold knownB typesL; rw [List.all_append, Bool.and_eq_true, List.all_map]; have h1 : c.fields.all (fun f => namedG l f.ty) = c.fields.all (knownT l ∘ fun f => f.ty) := all_congr fun f hf => named_ty l (h.1 f hf); rw [h1]
 have h2 : c.methods.all (mNamG l) = (c.methods.flatMap fun m => m.params ++ [m.ret]).all (knownT l) := by
  have h3 : ∀ m ∈ c.methods, mNamG l m = (m.params ++ [m.ret]).all (knownT l) := fun m hm => by
   unfold mNamG; rw [List.all_append, named_ty l (h.2 m hm).1, all_congr fun t ht => named_ty l ((h.2 m hm).2 t ht)]; simp [Bool.and_comm]
  generalize c.methods = ms at h3
  induction ms with
  | nil => rfl
  | cons m ms ih => rw [List.all_cons, List.flatMap_cons, List.all_append, h3 m (by simp), ih fun x hx => h3 x (List.mem_cons_of_mem _ hx)]
 rw [h2]
theorem memG_eq {c : XCls} (l : List XCls) (h : tyd c) : memG l c = memF l c := by
 unfold memG memF; by_cases h1 : formedB c = true
 · rw [if_pos ((formG_eq c).2 h1), if_pos h1]
   by_cases h2 : (c.fields.map (·.name)).Nodup /\ (c.methods.map (·.name)).Nodup
   · rw [if_pos h2, if_neg (fun h => (twiceB_iff c).1 h h2)]
     by_cases h3 : knownB l c = true
     · rw [if_pos ((knownG_eq l h).2 h3), if_pos h3]
     · rw [if_neg (fun h4 => h3 ((knownG_eq l h).1 h4)), if_neg h3]
   · rw [if_neg h2, if_pos ((twiceB_iff c).2 h2)]
 · rw [if_neg (fun h4 => h1 ((formG_eq c).1 h4)), if_neg h1]
theorem all_tyd {cs : List XCls} (h : progB cs = true) {k : Nat} {c : XCls} (hc : (allL cs)[k]? = some c) : tyd c := by
 rcases List.mem_append.1 (List.mem_of_getElem? hc) with hm | hm
 · have : ∀ c ∈ base, c.methods = [] /\ c.fields = [] := by decide
   obtain ⟨h1, h2⟩ := this c hm; exact ⟨by rw [h2]; simp, by rw [h1]; simp⟩
 · obtain ⟨_, _, _, _, _, h6, h7⟩ := cls_parts (prog_all h hm)
   refine ⟨fun f hf => ?_, fun m hm => ?_⟩
   · have := h6 f hf
     simp only [fldB, Bool.and_eq_true] at this; exact this.2
   · have := h7 m hm
     simp only [mthB, Bool.and_eq_true, eachB_iff] at this; exact ⟨this.2.2.1, this.2.1.2⟩
section
variable {cs : List XCls} {up : List (List Nat)}
def inhG (N : Net) (q : Nat) (c : XCls) : Int := if c.fields.any (clashF N q) = true then 6 else if c.methods.any (clashM N q) = true then 8 else 0
theorem inh_sup (he : errL cs = 0) (hg : growL (allL cs) (allL cs) = some up) {k q : Nat} (hk : k < (allL cs).length) {s : Bs} (hs : superL (clP (allL cs) k) = some s) (hq : placeL (allL cs) s = some q) : inhG (pnet (allL cs) up) q (clP (allL cs) k) = supF (pnet (allL cs) up) k := by
 unfold supF; have hsp : (pnet (allL cs) up).sup k = supP (allL cs) k := rfl; have hcl : (pnet (allL cs) up).cl k = clP (allL cs) k := rfl; rw [hsp, hcl]; cases hp : supP (allL cs) k with
 | none =>
   have h0 := sup_top he hg hk hp hs; rw [hq] at h0; injection h0 with h0; subst h0; have h0l : 0 < (allL cs).length := by omega
   have h1 : (clP (allL cs) k).fields.any (clashF (pnet (allL cs) up) 0) = false := by
    rw [List.any_eq_false]; intro f _; unfold clashF slotP; rw [sl_top he hg h0l]; simp
   have h2 : (clP (allL cs) k).methods.any (clashM (pnet (allL cs) up) 0) = false := by
    rw [List.any_eq_false]; intro m _; unfold clashM methP; rw [mt_top he hg h0l]; simp
   show inhG _ 0 _ = 0; unfold inhG; rw [h1, h2]
   rfl
 | some z =>
   have h1 := (sup_step he hg hk hp).1; rw [hs] at h1; injection h1 with h1; unfold supP at hp; rw [<- h1, hq] at hp; injection hp with hp; subst hp
   rfl
theorem sup_iface (he : errL cs = 0) (hg : growL (allL cs) (allL cs) = some up) {k : Nat} (hk : k < (allL cs).length) (hi : (clP (allL cs) k).iface = true) : supF (pnet (allL cs) up) k = 0 := by
 unfold supF; have hsp : (pnet (allL cs) up).sup k = supP (allL cs) k := rfl; rw [hsp]; cases hp : supP (allL cs) k with
 | none => rfl
 | some z =>
   have h1 := (sup_step he hg hk hp).1; unfold superL at h1; rw [if_pos (.inl hi)] at h1; cases h1
theorem base_up (he : errL cs = 0) (hg : growL (allL cs) (allL cs) = some up) {k : Nat} (hk : k < 8) {u : List Nat} (hu : up[k]? = some u) {j : Nat} (hj : j ∈ u) : j < 8 := by
 obtain ⟨_, ho, _⟩ := err_zero he; obtain ⟨x, b1, b2, b3, _⟩ := base_at hk; obtain ⟨u', hu', huc⟩ := growL_at hg ((all_base hk).trans b1); rw [hu] at hu'; injection hu' with hu'; subst hu'; obtain ⟨y, hy, e⟩ := (ups_names huc).2 j hj; unfold aboveL at hy; rw [b3, List.append_nil] at hy; have hb : ∀ x ∈ base, ∀ y ∈ (superL x).toList, y = objN \/ y = errN := by decide
 rcases hb x (List.mem_of_getElem? b1) y hy with rfl | rfl
 · rw [place_top] at e
   injection e with e; omega
 · rw [place_one ho] at e
   injection e with e; omega
theorem base_mem (l : List XCls) {k : Nat} (hk : k < 8) : memF l (clP (allL cs) k) = 0 := by
 obtain ⟨h1, h2, h3⟩ := base_bare (cs := cs) hk
 have e1 : formedB (clP (allL cs) k) = true := by
  unfold formedB fldsOk; rw [h1, h2, h3]
  rfl
 have e2 : ¬ twiceB (clP (allL cs) k) = true := fun h => (twiceB_iff _).1 h (by rw [h1, h2]; exact ⟨List.nodup_nil, List.nodup_nil⟩)
 have e3 : knownB l (clP (allL cs) k) = true := by
  unfold knownB typesL; rw [h1, h2]
  rfl
 unfold memF; rw [if_pos e1, if_neg e2, if_pos e3]
theorem base_sup (hg : growL (allL cs) (allL cs) = some up) {k : Nat} (hk : k < 8) : supF (pnet (allL cs) up) k = 0 := by
 obtain ⟨h1, h2, h3⟩ := base_bare (cs := cs) hk; unfold supF; have hcl : (pnet (allL cs) up).cl k = clP (allL cs) k := rfl; rw [hcl, h1, h2]
 split <;> simp
theorem base_ifc (he : errL cs = 0) (hg : growL (allL cs) (allL cs) = some up) {k : Nat} (hk : k < 8) : ifcF (pnet (allL cs) up) (List.range (allL cs).length) k = 0 := by
 unfold ifcF; have hcl : (pnet (allL cs) up).cl k = clP (allL cs) k := rfl; obtain ⟨_, _, h3⟩ := base_bare (cs := cs) hk; rw [hcl, h3, if_neg (by decide)]
 have hkl : k < (allL cs).length := by
  have h5 := all_len cs; have h6 : base.length = 8 := rfl; omega
 have hz : ∀ i, i ∉ (pnet (allL cs) up).ab k := by
  intro i hi; obtain ⟨h1, h2⟩ := (ab_far he hg _ k hkl (Nat.lt_succ_self _) i).1 hi; obtain ⟨x, b1, b2, b3, _⟩ := base_at hk
  have hlow : ∀ {a b : Nat}, Far up a b -> a < 8 -> b < 8 := by
   intro a b h; refine Far.ind (C := fun a b => a < 8 -> b < 8) (fun {i j} s h => ?_) (fun {i j m} _ s ih h => ?_) h
   · obtain ⟨u, hu, hj⟩ := s
     exact base_up he hg h hu hj
   · obtain ⟨u, hu, hj⟩ := s
     exact base_up he hg (ih h) hu hj
  have h8 : i < 8 := by
   rcases h2 with rfl | h2
   · exact hk
   · exact hlow h2 hk
  rw [(base_bare (cs := cs) h8).2.2] at h1; cases h1
 have : ∀ l : List Nat, firstL (faceF (pnet (allL cs) up) k) l = 0 := by
  intro l
  induction l with
  | nil => rfl
  | cons a l ih =>
    have h0 : faceF (pnet (allL cs) up) k a = 0 := by unfold faceF; rw [if_neg (hz a)]
    simp only [firstL, h0, if_true, ih]
 exact this _
end
end Ly
end Go.Proofs.YtbbbnciejmdpfabGreatDoor

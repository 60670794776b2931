/- The page's faults (pure). What the page's above, Base answer. What TwinProgram answers. What the page's All, reach answer. What the page's reach answers. The words of a program that can be shown are words, and not too many. No program is named here. What the page's Shown leans on, where the program has no writer: a type's words, instructions by their arguments. What the page's Name answers. What the page's Kept answers. -/
import Derived.Test.YtbbbnciejmdpfaaGreatDoorPkAm
import Derived.Test.YtbbbnciejmdpfaaGreatDoorPkAf
import Derived.Test.YtbbbnciejmdpfaaGreatDoorPkAb
import Derived.Maps.AppendAt
import Derived.Test.YtbbbnciejmdpfaaGreatDoorPkAa
import Derived.Test.YtbbbnciejmdpfaaGreatDoorPkAg
set_option maxRecDepth 100000
set_option maxHeartbeats 64000000
set_option linter.unusedVariables false
set_option linter.unusedSimpArgs false
namespace Go.Proofs.YtbbbnciejmdpfaaGreatDoor
namespace Ly
open Pp Hr
def mOkG (c : XCls) (m : XMth) : Bool := !((c.iface && (!m.abst || m.stat)) || (!c.iface && m.abst)) && m.params.all fun t => t.kind != 1
def fOkG (c : XCls) (f : Fld) : Bool := !(c.iface || f.ty.kind == 1)
def namedG (l : List XCls) (t : Ty) : Bool := (t.kind != 3 && t.kind != 5) || (placeL l t.name).isSome
def mNamG (l : List XCls) (m : XMth) : Bool := namedG l m.ret && m.params.all (namedG l)
def memG (l : List XCls) (c : XCls) : Int :=
  if c.methods.all (mOkG c) = true ∧ c.fields.all (fOkG c) = true then (if (c.fields.map (·.name)).Nodup ∧ (c.methods.map (·.name)).Nodup then (if c.fields.all (fun f => namedG l f.ty) = true ∧ c.methods.all (mNamG l) = true then 0 else 5) else 6) else 4
theorem all_congr {α : Type} {p q : α → Bool} : ∀ {l : List α}, (∀ x ∈ l, p x = q x) → l.all p = l.all q
  | [], _ => rfl
  | a :: l, h => by rw [List.all_cons, List.all_cons, h a (by simp), all_congr fun x hx => h x (List.mem_cons_of_mem _ hx)]
theorem formG_eq (c : XCls) : (c.methods.all (mOkG c) = true ∧ c.fields.all (fOkG c) = true) ↔ formedB c = true := by
  unfold formedB fldsOk
  rw [Bool.and_eq_true, Bool.and_eq_true]
  have h1 : c.methods.all (mOkG c) = c.methods.all (mthOk c) := all_congr fun m _ => by
    unfold mOkG mthOk
    cases c.iface <;> cases m.abst <;> cases m.stat <;> simp
  rw [h1]
  cases hi : c.iface with
  | true =>
    have h2 : c.fields.all (fOkG c) = decide (c.fields = []) := by
      cases c.fields with
      | nil => rfl
      | cons f fs => rw [List.all_cons]; unfold fOkG; rw [hi]; simp
    rw [h2]
    cases c.fields with
    | nil => simp
    | cons f fs => simp
  | false =>
    have h2 : c.fields.all (fOkG c) = c.fields.all (fun f => f.ty.kind != 1) := all_congr fun f _ => by unfold fOkG; rw [hi]; rfl
    rw [h2]
    simp [and_comm]
theorem named_ty {t : Ty} (l : List XCls) (h : typeB t = true) : namedG l t = knownT l t := by
  unfold typeB at h
  unfold namedG knownT
  split at h
  · rename_i hk
    have hn : t.name = [] := by simpa using h
    rw [hn]
    rcases hk with hk | hk | hk <;> rw [hk] <;> simp
  · split at h
    · rename_i hk
      have hne := fresh_ne h
      have hne' : (t.name == []) = false := by simpa using hne
      rw [hne']
      rcases hk with hk | hk <;> rw [hk] <;> simp
    · cases h
def tyd (c : XCls) : Prop := (∀ f ∈ c.fields, typeB f.ty = true) ∧ ∀ m ∈ c.methods, typeB m.ret = true ∧ ∀ t ∈ m.params, typeB t = true
theorem knownG_eq {c : XCls} (l : List XCls) (h : tyd c) : (c.fields.all (fun f => namedG l f.ty) = true ∧ c.methods.all (mNamG l) = true) ↔ knownB l c = true := by
  unfold knownB typesL
  rw [List.all_append, Bool.and_eq_true, List.all_map]
  have h1 : c.fields.all (fun f => namedG l f.ty) = c.fields.all (knownT l ∘ fun f => f.ty) := all_congr fun f hf => named_ty l (h.1 f hf)
  rw [h1]
  have h2 : c.methods.all (mNamG l) = (c.methods.flatMap fun m => m.params ++ [m.ret]).all (knownT l) := by
    have h3 : ∀ m ∈ c.methods, mNamG l m = (m.params ++ [m.ret]).all (knownT l) := fun m hm => by
      unfold mNamG
      rw [List.all_append, named_ty l (h.2 m hm).1, all_congr fun t ht => named_ty l ((h.2 m hm).2 t ht)]
      simp [Bool.and_comm]
    generalize c.methods = ms at h3
    induction ms with
    | nil => rfl
    | cons m ms ih => rw [List.all_cons, List.flatMap_cons, List.all_append, h3 m (by simp), ih fun x hx => h3 x (List.mem_cons_of_mem _ hx)]
  rw [h2]
theorem memG_eq {c : XCls} (l : List XCls) (h : tyd c) : memG l c = memF l c := by
  unfold memG memF
  by_cases h1 : formedB c = true
  · rw [if_pos ((formG_eq c).2 h1), if_pos h1]
    by_cases h2 : (c.fields.map (·.name)).Nodup ∧ (c.methods.map (·.name)).Nodup
    · rw [if_pos h2, if_neg (fun h => (twiceB_iff c).1 h h2)]
      by_cases h3 : knownB l c = true
      · rw [if_pos ((knownG_eq l h).2 h3), if_pos h3]
      · rw [if_neg (fun h4 => h3 ((knownG_eq l h).1 h4)), if_neg h3]
    · rw [if_neg h2, if_pos ((twiceB_iff c).2 h2)]
  · rw [if_neg (fun h4 => h1 ((formG_eq c).1 h4)), if_neg h1]
theorem all_tyd {cs : List XCls} (h : progB cs = true) {k : Nat} {c : XCls} (hc : (allL cs)[k]? = some c) : tyd c := by
  rcases List.mem_append.1 (List.mem_of_getElem? hc) with hm | hm
  · have : ∀ c ∈ base, c.methods = [] ∧ c.fields = [] := by decide
    obtain ⟨h1, h2⟩ := this c hm
    exact ⟨by rw [h2]; simp, by rw [h1]; simp⟩
  · obtain ⟨_, _, _, _, _, h6, h7⟩ := cls_parts (prog_all h hm)
    refine ⟨fun f hf => ?_, fun m hm => ?_⟩
    · have := h6 f hf
      simp only [fldB, Bool.and_eq_true] at this
      exact this.2
    · have := h7 m hm
      simp only [mthB, Bool.and_eq_true, eachB_iff] at this
      exact ⟨this.2.2.1, this.2.1.2⟩
section
variable {cs : List XCls} {up : List (List Nat)}
def inhG (N : Net) (q : Nat) (c : XCls) : Int := if c.fields.any (clashF N q) = true then 6 else if c.methods.any (clashM N q) = true then 8 else 0
theorem inh_sup (he : errL cs = 0) (hg : growL (allL cs) (allL cs) = some up) {k q : Nat} (hk : k < (allL cs).length) {s : Bs} (hs : superL (clP (allL cs) k) = some s) (hq : placeL (allL cs) s = some q) : inhG (pnet (allL cs) up) q (clP (allL cs) k) = supF (pnet (allL cs) up) k := by
  unfold supF
  have hsp : (pnet (allL cs) up).sup k = supP (allL cs) k := rfl
  have hcl : (pnet (allL cs) up).cl k = clP (allL cs) k := rfl
  rw [hsp, hcl]
  cases hp : supP (allL cs) k with
  | none =>
    have h0 := sup_top he hg hk hp hs
    rw [hq] at h0
    injection h0 with h0
    subst h0
    have h0l : 0 < (allL cs).length := by omega
    have h1 : (clP (allL cs) k).fields.any (clashF (pnet (allL cs) up) 0) = false := by
      rw [List.any_eq_false]
      intro f _
      unfold clashF slotP
      rw [sl_top he hg h0l]
      simp
    have h2 : (clP (allL cs) k).methods.any (clashM (pnet (allL cs) up) 0) = false := by
      rw [List.any_eq_false]
      intro m _
      unfold clashM methP
      rw [mt_top he hg h0l]
      simp
    show inhG _ 0 _ = 0
    unfold inhG
    rw [h1, h2]
    rfl
  | some z =>
    have h1 := (sup_step he hg hk hp).1
    rw [hs] at h1
    injection h1 with h1
    unfold supP at hp
    rw [← h1, hq] at hp
    injection hp with hp
    subst hp
    rfl
theorem sup_iface (he : errL cs = 0) (hg : growL (allL cs) (allL cs) = some up) {k : Nat} (hk : k < (allL cs).length) (hi : (clP (allL cs) k).iface = true) : supF (pnet (allL cs) up) k = 0 := by
  unfold supF
  have hsp : (pnet (allL cs) up).sup k = supP (allL cs) k := rfl
  rw [hsp]
  cases hp : supP (allL cs) k with
  | none => rfl
  | some z =>
    have h1 := (sup_step he hg hk hp).1
    unfold superL at h1
    rw [if_pos (.inl hi)] at h1
    cases h1
theorem base_up (he : errL cs = 0) (hg : growL (allL cs) (allL cs) = some up) {k : Nat} (hk : k < 8) {u : List Nat} (hu : up[k]? = some u) {j : Nat} (hj : j ∈ u) : j < 8 := by
  obtain ⟨_, ho, _⟩ := err_zero he
  obtain ⟨x, b1, b2, b3, _⟩ := base_at hk
  obtain ⟨u', hu', huc⟩ := growL_at hg ((all_base hk).trans b1)
  rw [hu] at hu'
  injection hu' with hu'
  subst hu'
  obtain ⟨y, hy, e⟩ := (ups_names huc).2 j hj
  unfold aboveL at hy
  rw [b3, List.append_nil] at hy
  have hb : ∀ x ∈ base, ∀ y ∈ (superL x).toList, y = objN ∨ y = errN := by decide
  rcases hb x (List.mem_of_getElem? b1) y hy with rfl | rfl
  · rw [place_top] at e
    injection e with e
    omega
  · rw [place_one ho] at e
    injection e with e
    omega
theorem base_mem (l : List XCls) {k : Nat} (hk : k < 8) : memF l (clP (allL cs) k) = 0 := by
  obtain ⟨h1, h2, h3⟩ := base_bare (cs := cs) hk
  have e1 : formedB (clP (allL cs) k) = true := by
    unfold formedB fldsOk
    rw [h1, h2, h3]
    rfl
  have e2 : ¬ twiceB (clP (allL cs) k) = true := fun h => (twiceB_iff _).1 h (by rw [h1, h2]; exact ⟨List.nodup_nil, List.nodup_nil⟩)
  have e3 : knownB l (clP (allL cs) k) = true := by
    unfold knownB typesL
    rw [h1, h2]
    rfl
  unfold memF
  rw [if_pos e1, if_neg e2, if_pos e3]
theorem base_sup (hg : growL (allL cs) (allL cs) = some up) {k : Nat} (hk : k < 8) : supF (pnet (allL cs) up) k = 0 := by
  obtain ⟨h1, h2, h3⟩ := base_bare (cs := cs) hk
  unfold supF
  have hcl : (pnet (allL cs) up).cl k = clP (allL cs) k := rfl
  rw [hcl, h1, h2]
  split <;> simp
theorem base_ifc (he : errL cs = 0) (hg : growL (allL cs) (allL cs) = some up) {k : Nat} (hk : k < 8) : ifcF (pnet (allL cs) up) (List.range (allL cs).length) k = 0 := by
  unfold ifcF
  have hcl : (pnet (allL cs) up).cl k = clP (allL cs) k := rfl
  obtain ⟨_, _, h3⟩ := base_bare (cs := cs) hk
  rw [hcl, h3, if_neg (by decide)]
  have hkl : k < (allL cs).length := by
    have h5 := all_len cs
    have h6 : base.length = 8 := rfl
    omega
  have hz : ∀ i, i ∉ (pnet (allL cs) up).ab k := by
    intro i hi
    obtain ⟨h1, h2⟩ := (ab_far he hg _ k hkl (Nat.lt_succ_self _) i).1 hi
    obtain ⟨x, b1, b2, b3, _⟩ := base_at hk
    have hlow : ∀ {a b : Nat}, Far up a b → a < 8 → b < 8 := by
      intro a b h
      refine Far.ind (C := fun a b => a < 8 → b < 8) (fun {i j} s h => ?_) (fun {i j m} _ s ih h => ?_) h
      · obtain ⟨u, hu, hj⟩ := s
        exact base_up he hg h hu hj
      · obtain ⟨u, hu, hj⟩ := s
        exact base_up he hg (ih h) hu hj
    have h8 : i < 8 := by
      rcases h2 with rfl | h2
      · exact hk
      · exact hlow h2 hk
    rw [(base_bare (cs := cs) h8).2.2] at h1
    cases h1
  have : ∀ l : List Nat, firstL (faceF (pnet (allL cs) up) k) l = 0 := by
    intro l
    induction l with
    | nil => rfl
    | cons a l ih =>
      have h0 : faceF (pnet (allL cs) up) k a = 0 := by unfold faceF; rw [if_neg (hz a)]
      simp only [firstL, h0, if_true, ih]
  exact this _
end
end Ly
end Go.Proofs.YtbbbnciejmdpfaaGreatDoor
namespace Go.Proofs.YtbbbnciejmdpfaaGreatDoor
open Go.RowKit
namespace Hr
theorem above_nil {c : Pp.XCls} (h : superS c = []) : aboveL c = c.ifaces := by
  unfold aboveL; rw [superS_nil h]; rfl
theorem above_ne {c : Pp.XCls} (h : superS c ≠ []) : aboveL c = superS c :: c.ifaces := by
  unfold aboveL; rw [superS_ne h]; rfl
theorem superS_len {c : Pp.XCls} (h : c.super.length ≤ maxLen) : (superS c).length ≤ maxLen := by
  unfold superS superL
  split
  · exact Nat.zero_le _
  · split
    · show 6 ≤ maxLen; unfold maxLen; omega
    · exact h
end Hr
theorem above_any (c : Pp.XCls) (ys : List Value) (w : World) (h : ClsX w c ys) (hl : c.ifaces.length ≤ 1000) :
    Calls Tryz.prog 48 #[.agg ys.toArray] w fun e w' => ∃ v', e = .returned v' ∧ Ow.OwnX w' w.heap.size 9 1 StrX v' (Hr.aboveL c) ∧ Below w.heap.size w w' := by
  obtain ⟨j0, hj, hj0, hj1, hj2⟩ := Ow.info_of Ow.i_str
  have HS := hide (fun wx (hb : Below w.heap.size w wx) => RSuper_any c ys wx (h.on hb))
  obtain ⟨vp, vc, vk, rfl, p1, i1, k1, z1⟩ := h
  have HI := hide p1
  have HZ := hide z1.2.1
  obtain ⟨va1, vd1, rfl, _⟩ := p1.len
  obtain ⟨va2, vd2, rfl, _⟩ := i1.len
  obtain ⟨va3, vd3, rfl, _⟩ := k1.len
  clear p1 i1 k1 z1
  simp only [clsXL, List.toArray] at HS ⊢
  have HX := hide (heap_alloc_new w (.cells #[.string ⟨c.name.toArray⟩, .bool c.iface, .string ⟨c.super.toArray⟩, .slice va1 c.ifaces.length vd1, .slice va2 c.fields.length vd2, .slice va3 c.methods.length vd3] 42))
  have HB0 := hide ((Below.refl w.heap.size w).alloc (Nat.le_refl _) (.cells #[.string ⟨c.name.toArray⟩, .bool c.iface, .string ⟨c.super.toArray⟩, .slice va1 c.ifaces.length vd1, .slice va2 c.fields.length vd2, .slice va3 c.methods.length vd3] 42))
  go_enter Tryz.func48, Tryz.ntmps48
  go_wp2_with fail
  refine (HS.out _ HB0.out).mono ?_
  rintro e w1 ⟨rfl, hb1⟩
  have HB1 := hide (HB0.out.trans (hb1.mono HB0.out.size))
  have c3 := cell_box ((hb1.block _ (Ow.lt_of_blk HX.out)).trans HX.out) 3
  have HC3 := hide (fun wx (hb : Below w1.heap.size w1 wx) => cell_box ((hb.block _ (Nat.lt_of_lt_of_le (Ow.lt_of_blk HX.out) hb1.size)).trans ((hb1.block _ (Ow.lt_of_blk HX.out)).trans HX.out)) 3)
  clear HS hb1 HX HB0
  obtain ⟨n, hn⟩ : ∃ n, n = c.ifaces.length := ⟨_, rfl⟩
  have HN := hide hn
  rw [← hn] at HI c3 HC3 hl
  clear hn
  by_cases hs : Hr.superS c = []
  · have HA := hide (Hr.above_nil hs)
    rw [hs]
    go_wp2_with (at_builtin; refine Ow.wpList_app rfl (.tmp 13) (.tmp 15) 38 rfl Tryz.underlying38 hj hj0 hj1 hj2 (by decide) Ow.shp_str rfl (Ow.OwnX.nil w1 w.heap.size 9 1 StrX) rfl (HI.out.on HB1.out fun _ _ h => h) ?c1 (by decide) HB1.out.size ?_)
    case c1 => rw [← HN.out]; simp; omega
    · intro v' w2 hown hgrow
      have HB2 := hide (HB1.out.trans (Ow.bel_grown (Ow.OwnX.nil w1 w.heap.size 9 1 StrX) HB1.out.size hgrow))
      have HO2 : Hid (Ow.OwnX w2 w.heap.size 9 1 StrX v' (Hr.aboveL c)) := hide (by rw [HA.out]; exact hown)
      clear hown hgrow
      go_wp2_with fail
      go_ret
      exact ⟨_, rfl, HO2.out, HB2.out⟩
  · have HA := hide (Hr.above_ne hs)
    have hse : (Hr.superS c == []) = false := by simp [hs]
    have HL := hide (Hr.superS_len HZ.out)
    clear hs
    generalize Hr.superS c = s at *
    have hAl := HB1.out.alloc HB1.out.size (.cells #[.string ⟨s.toArray⟩] 9)
    have HAl := hide hAl
    have HR1 : Hid (RowX (w1.alloc (.cells #[.string ⟨s.toArray⟩] 9)) 1 StrX (.slice (some ⟨w1.heap.size, 0, none⟩) 1 1) [s]) := hide (Hr.row_one (heap_alloc_new w1 _) ⟨rfl, HL.out⟩)
    clear hAl c3
    go_wp2_with (at_builtin; refine Ow.wpList_app rfl (.tmp 9) (.tmp 11) 38 rfl Tryz.underlying38 hj hj0 hj1 hj2 (by decide) Ow.shp_str rfl (Ow.OwnX.nil _ w.heap.size 9 1 StrX) rfl HR1.out ?c1 (by decide) HAl.out.size ?_)
    case c1 => simp
    · intro v' w2 hown hgrow
      have HG2 := hide (Ow.bel_grown (Ow.OwnX.nil (w1.alloc (.cells #[.string ⟨s.toArray⟩] 9)) (w1.alloc (.cells #[.string ⟨s.toArray⟩] 9)).heap.size 9 1 StrX) (Nat.le_refl _) hgrow)
      have HW2 : Hid (Below w1.heap.size w1 w2) := hide (((Below.refl _ _).alloc (Nat.le_refl _) _).trans (HG2.out.mono (by simp)))
      have HB2 := hide (HB1.out.trans (HW2.out.mono HB1.out.size))
      have HO2 := hide hown
      have c3 := HC3.out _ HW2.out
      obtain ⟨la, lc, rfl⟩ := hown.shape
      clear hown hgrow HR1 HAl HG2
      go_wp2_with (at_builtin; refine Ow.wpList_app rfl (.tmp 13) (.tmp 15) 38 rfl Tryz.underlying38 hj hj0 hj1 hj2 (by decide) Ow.shp_str rfl HO2.out rfl (HI.out.on HB2.out fun _ _ h => h) ?c2 (by decide) HB2.out.size ?_)
      case c2 => rw [← HN.out]; simp; omega
      · intro v' w3 hown hgrow
        have HB3 := hide (HB2.out.trans (Ow.bel_grown HO2.out HB2.out.size hgrow))
        have HO3 : Hid (Ow.OwnX w3 w.heap.size 9 1 StrX v' (Hr.aboveL c)) := hide (by rw [HA.out]; exact hown)
        clear hown hgrow
        go_wp2_with fail
        go_ret
        exact ⟨_, rfl, HO3.out, HB3.out⟩
theorem Base_any (w : World) :
    Calls Tryz.prog 26 #[] w fun e w' => ∃ v, e = .returned v ∧ Ow.OwnX w' w.heap.size 42 6 Hr.BasX v Hr.base ∧ Below w.heap.size w w' := by
  obtain ⟨j0, hj, hj0, hj1, hj2⟩ := Ow.info_of Ow.i_cls
  have HO0 : Hid (Ow.OwnX (w.alloc (.cells #[.string ⟨#[79, 98, 106, 101, 99, 116]⟩, .bool false, .string ⟨#[]⟩, .slice none 0 0, .slice none 0 0, .slice none 0 0, .string ⟨#[69, 114, 114, 111, 114]⟩, .bool false, .string ⟨#[79, 98, 106, 101, 99, 116]⟩, .slice none 0 0, .slice none 0 0, .slice none 0 0] 42)) w.heap.size 42 6 Hr.BasX (.slice (some ⟨w.heap.size, 0, none⟩) 2 2) (Hr.base.take 2)) := hide
    ⟨_, ⟨[.string ⟨#[79, 98, 106, 101, 99, 116]⟩, .bool false, .string ⟨#[]⟩, .slice none 0 0, .slice none 0 0, .slice none 0 0], _, rfl, Hr.bas_plain (by decide) (by decide), [.string ⟨#[69, 114, 114, 111, 114]⟩, .bool false, .string ⟨#[79, 98, 106, 101, 99, 116]⟩, .slice none 0 0, .slice none 0 0, .slice none 0 0], _, rfl, Hr.bas_plain (by decide) (by decide), rfl⟩, rfl, .inr ⟨w.heap.size, 2, _, rfl, Nat.le_refl _, heap_alloc_new w _, Nat.le_refl _, by decide, rfl, rfl⟩⟩
  have HW0 := hide ((Below.refl w.heap.size w).alloc (Nat.le_refl _) (.cells #[.string ⟨#[79, 98, 106, 101, 99, 116]⟩, .bool false, .string ⟨#[]⟩, .slice none 0 0, .slice none 0 0, .slice none 0 0, .string ⟨#[69, 114, 114, 111, 114]⟩, .bool false, .string ⟨#[79, 98, 106, 101, 99, 116]⟩, .slice none 0 0, .slice none 0 0, .slice none 0 0] 42))
  go_enter Tryz.func26, Tryz.ntmps26
  go_wp2_with fail
  have HS0 : Hid ((w.alloc (.cells #[.string ⟨#[79, 98, 106, 101, 99, 116]⟩, .bool false, .string ⟨#[]⟩, .slice none 0 0, .slice none 0 0, .slice none 0 0, .string ⟨#[69, 114, 114, 111, 114]⟩, .bool false, .string ⟨#[79, 98, 106, 101, 99, 116]⟩, .slice none 0 0, .slice none 0 0, .slice none 0 0] 42)).heap.size = w.heap.size + 1) := hide (by simp)
  generalize w.alloc (.cells #[.string ⟨#[79, 98, 106, 101, 99, 116]⟩, .bool false, .string ⟨#[]⟩, .slice none 0 0, .slice none 0 0, .slice none 0 0, .string ⟨#[69, 114, 114, 111, 114]⟩, .bool false, .string ⟨#[79, 98, 106, 101, 99, 116]⟩, .slice none 0 0, .slice none 0 0, .slice none 0 0] 42) = w0 at *
  go_loopw [1, 3] (fun v i wr => ∃ k : Nat, k ≤ 6 ∧ i = .int .i64 k ∧ Hid (Below w.heap.size w wr) ∧ Hid (wr.heap[w.heap.size + 1]? = some (.cells ((Hr.subs.map fun s => Value.string ⟨s.toArray⟩).toArray) 9 (0, 0))) ∧ Hid (Ow.OwnX wr w.heap.size 42 6 Hr.BasX v (Hr.base.take (2 + k)))) (fun v i _ => 6 - (intOf i).toNat)
  case atStart => exact ⟨0, Nat.zero_le _, rfl, hide (HW0.out.alloc HW0.out.size _), hide (by rw [← HS0.out]; exact heap_alloc_new w0 _), hide (HO0.out.on ((Below.refl _ _).alloc (Nat.le_refl _) _) fun _ _ h => h)⟩
  case round =>
    obtain ⟨k, hk, rfl, HB, HT, HO⟩ := hrel
    clear HO0 HW0
    obtain ⟨la, lc, rfl⟩ := HO.out.shape
    by_cases hlt : k < 6
    · have hlen : Hid ((Hr.base.take (2 + k)).length = 2 + k) := hide (by rw [List.length_take]; have : Hr.base.length = 8 := rfl; omega)
      obtain ⟨s, hs, hb, hsl⟩ : ∃ s, Hr.subs[k]? = some s ∧ Hr.base[2 + k]? = some (Hr.plain s Hr.errN) ∧ s.length ≤ maxLen := by
        have hcs : k = 0 ∨ k = 1 ∨ k = 2 ∨ k = 3 ∨ k = 4 ∨ k = 5 := by omega
        rcases hcs with rfl | rfl | rfl | rfl | rfl | rfl <;> exact ⟨_, rfl, rfl, by decide⟩
      have HTk : Hid (Hr.base.take (2 + (k + 1)) = Hr.base.take (2 + k) ++ [Hr.plain s Hr.errN]) := hide (by rw [← Nat.add_assoc, List.take_add_one, hb]; rfl)
      have HSl := hide hsl
      have r0 := cell_box HT.out k
      rw [List.getElem?_toArray, List.getElem?_map, hs] at r0
      simp only [Option.map_some] at r0
      have hlt' : (k : Int) < 6 := by omega
      clear hs hb hsl
      generalize Hr.base.take (2 + k) = acc at *
      obtain ⟨al, hal⟩ : ∃ a, a = acc.length := ⟨_, rfl⟩
      have HAl := hide hal
      have HTA := hide (((Below.refl wr.heap.size wr).alloc (Nat.le_refl _) (.cells #[.string ⟨s.toArray⟩, .bool false, .string ⟨#[69, 114, 114, 111, 114]⟩, .slice none 0 0, .slice none 0 0, .slice none 0 0] 42)).block _ (Ow.lt_of_blk HT.out) |>.trans HT.out)
      have HA := hide (HB.out.alloc HB.out.size (.cells #[.string ⟨s.toArray⟩, .bool false, .string ⟨#[69, 114, 114, 111, 114]⟩, .slice none 0 0, .slice none 0 0, .slice none 0 0] 42))
      have HO1 := hide (HO.out.on ((Below.refl wr.heap.size wr).alloc (Nat.le_refl _) (.cells #[.string ⟨s.toArray⟩, .bool false, .string ⟨#[69, 114, 114, 111, 114]⟩, .slice none 0 0, .slice none 0 0, .slice none 0 0] 42)) fun _ _ h => h)
      have HR1 := hide (Hr.row_one (sz := 6) (P := Hr.BasX) (heap_alloc_new wr (.cells #[.string ⟨s.toArray⟩, .bool false, .string ⟨#[69, 114, 114, 111, 114]⟩, .slice none 0 0, .slice none 0 0, .slice none 0 0] 42)) (Hr.bas_plain (n := s) (s := Hr.errN) HSl.out (by decide)))
      clear HO HT HB
      go_wp2_with (at_builtin; refine Ow.wpList_app rfl (.tmp 14) (.tmp 20) 22 rfl Tryz.underlying22 hj hj0 hj1 hj2 (by decide) Hr.shp_bas rfl HO1.out rfl HR1.out ?c1 (by decide) HA.out.size ?_)
      case c1 => have := hlen.out; simp; omega
      · intro v' w10 hown hgrow
        have hkx := Ow.kx_grown HO1.out hgrow
        have HB10 := hide (HA.out.trans (Ow.bel_grown HO1.out HA.out.size hgrow))
        have HT10 := hide (hkx.blk _ _ _ _ HTA.out (by decide))
        have HO10 : Hid (Ow.OwnX w10 w.heap.size 42 6 Hr.BasX v' (Hr.base.take (2 + (k + 1)))) := hide (by rw [HTk.out]; exact hown)
        clear hown hgrow hkx HO1 HR1 HA HTA
        go_wp2_with fail
        go_roundw
        case rel => first | exact ⟨k + 1, by omega, by go_num, HB10, HT10, HO10⟩ | ((repeat apply Exists.intro); exact ⟨⟨k + 1, by omega, by go_num, HB10, HT10, HO10⟩, rfl⟩)
        case measure => simp [intOf]; omega
    · have hk6 : k = 6 := by omega
      subst hk6
      have HOe : Hid (Ow.OwnX wr w.heap.size 42 6 Hr.BasX (.slice la (List.take (2 + 6) Hr.base).length lc) Hr.base) := HO
      generalize (List.take (2 + 6) Hr.base).length = nl at *
      go_wp2_with fail
      go_ret
      exact ⟨_, rfl, HOe.out, HB.out⟩
end Go.Proofs.YtbbbnciejmdpfaaGreatDoor
namespace Go.Proofs.YtbbbnciejmdpfaaGreatDoor
open Go.RowKit
theorem TwinProgram_any (cs : List Pp.XCls) (v : Value) (w : World) (h : ProgX w v cs) (hl : Pp.Light cs) :
    Calls Tryz.prog 51 #[.agg #[v]] w fun e w' => ∃ v', e = .returned (.agg #[v']) ∧ Ow.ProgO w' w.heap.size v' cs ∧ Below w.heap.size w w' := by
  have HR := hide h.1
  have HZ := hide h.2
  have HLc := hide hl.2
  have hn := hl.1
  obtain ⟨pa, pc, rfl, _⟩ := h.1.len
  obtain ⟨n, hn'⟩ : ∃ n, n = cs.length := ⟨_, rfl⟩
  have HN := hide hn'
  rw [← hn'] at HR hn ⊢
  clear h hl hn'
  obtain ⟨j0, hj, hj0, hj1, hj2⟩ := Ow.info_of Ow.i_cls
  have hx0 : (((w.alloc (.cells #[.slice pa n pc] 24)).alloc (.cells #[.slice none 0 0] 24)).alloc (.cells #[.slice none 0 0] 24)).heap[w.heap.size]? = some (.cells #[.slice pa n pc] 24 (0, 0)) :=
    (((Below.refl _ _).alloc (Nat.le_refl _) _).block w.heap.size (by simp; omega)).trans (Ow.blk_alloc2a w _ _)
  have hx1 : (((w.alloc (.cells #[.slice pa n pc] 24)).alloc (.cells #[.slice none 0 0] 24)).alloc (.cells #[.slice none 0 0] 24)).heap[w.heap.size + 1]? = some (.cells #[.slice none 0 0] 24 (0, 0)) :=
    (((Below.refl _ _).alloc (Nat.le_refl _) _).block (w.heap.size + 1) (by simp)).trans (Ow.blk_alloc2b w _ _)
  have hx2 : (((w.alloc (.cells #[.slice pa n pc] 24)).alloc (.cells #[.slice none 0 0] 24)).alloc (.cells #[.slice none 0 0] 24)).heap[w.heap.size + 2]? = some (.cells #[.slice none 0 0] 24 (0, 0)) := by
    have := heap_alloc_new ((w.alloc (.cells #[.slice pa n pc] 24)).alloc (.cells #[.slice none 0 0] 24)) (.cells #[.slice none 0 0] 24)
    simpa using this
  have HB0 := hide (Ow.bel_alloc2 w (.cells #[.slice pa n pc] 24) (.cells #[.slice none 0 0] 24) |>.alloc (by simp; omega) (.cells #[.slice none 0 0] 24))
  go_enter Tryz.func51, Tryz.ntmps51
  go_wp2_with fail
  generalize (((w.alloc (.cells #[.slice pa n pc] 24)).alloc (.cells #[.slice none 0 0] 24)).alloc (.cells #[.slice none 0 0] 24)) = w0 at *
  have hs2 : w.heap.size + 2 < w0.heap.size := Ow.lt_of_blk hx2
  have HC : Hid (∀ wx, Below (w.heap.size + 2) w0 wx → wx.heap[w.heap.size]? = some (.cells #[.slice pa n pc] 24 (0, 0)) ∧ wx.heap[w.heap.size + 1]? = some (.cells #[.slice none 0 0] 24 (0, 0))) := hide fun wx hb => ⟨(hb.block _ (by omega)).trans hx0, (hb.block _ (by omega)).trans hx1⟩
  have HX2 := hide hx2
  clear hx0 hx1 hx2
  go_loopw [4] (fun i wr => ∃ (k : Nat) (acc : List Pp.XCls) (la : Option Addr) (lc : Nat), k ≤ n ∧ i = .int .i64 k ∧ Hid (Below (w.heap.size + 2) w0 wr) ∧ Hid (wr.heap[w.heap.size + 2]? = some (.cells #[.slice la acc.length lc] 24 (0, 0))) ∧ Hid (Ow.OwnX wr w0.heap.size 42 6 (Ow.ClsO wr w0.heap.size) (.slice la acc.length lc) acc) ∧ Hid (acc = cs.take k)) (fun i _ => n - (intOf i).toNat)
  case atStart => exact ⟨0, [], none, 0, Nat.zero_le _, rfl, hide (Below.refl _ _), HX2, hide (Ow.OwnX.nil _ _ _ _ _), hide rfl⟩
  case round =>
    obtain ⟨k, acc, la, lc, hk, rfl, HBr, HTr, HO, HAc⟩ := hrel
    clear HX2
    have q0 := cell_box (HC.out wr HBr.out).1 0
    have hsr := HBr.out.size
    by_cases hlt : k < n
    · obtain ⟨x, hx⟩ : ∃ x, cs[k]? = some x := ⟨cs[k]'(by rw [← HN.out]; exact hlt), List.getElem?_eq_getElem _⟩
      obtain ⟨g1, o1, eg1, ys1, w1', hc1⟩ := Ow.row_at HR.out hx
      subst eg1
      have HBw := hide (HB0.out.trans (HBr.out.mono (by omega)))
      have HCx := hide (hc1 wr.drew (HBw.out.trans ((Below.drew (Below.refl _ _)).mono HBw.out.size)))
      have HM := hide (fun wy (hb : Below wr.heap.size wr wy) => TwinClass_any x ys1 wy (w1'.on (HBw.out.trans (hb.mono HBw.out.size))) (HLc.out x (List.mem_of_getElem? hx)))
      have HTk : Hid (acc ++ [x] = cs.take (k + 1)) := hide (by rw [HAc.out, List.take_add_one, hx]; rfl)
      have HLn : Hid (acc.length ≤ 14) := hide (by rw [HAc.out, List.length_take]; omega)
      obtain ⟨vp, vc, vk, rfl, x1, x2, x3, _⟩ := w1'
      obtain ⟨va1, vd1, rfl, _⟩ := x1.len
      obtain ⟨va2, vd2, rfl, _⟩ := x2.len
      obtain ⟨va3, vd3, rfl, _⟩ := x3.len
      have r0 := HCx.out 0 _ rfl
      have r1 := HCx.out 1 _ rfl
      have r2 := HCx.out 2 _ rfl
      have r3 := HCx.out 3 _ rfl
      have r4 := HCx.out 4 _ rfl
      have r5 := HCx.out 5 _ rfl
      rw [Nat.add_zero] at r0
      have hlt' : (k : Int) < (n : Int) := by omega
      have hn1 : (n : Int) ≤ 14 := by omega
      have HDr : Hid (Below wr.heap.size wr wr.drew) := hide (Below.drew (Below.refl _ _))
      have HT9 : Hid (∀ wy, Below wr.heap.size wr wy → wy.heap[w.heap.size + 2]? = some (.cells #[.slice la acc.length lc] 24 (0, 0))) := hide fun wy hb => (hb.block _ (Ow.lt_of_blk HTr.out)).trans HTr.out
      have t0 := cell_box HTr.out 0
      obtain ⟨ln, hln⟩ : ∃ q, q = acc.length := ⟨_, rfl⟩
      have HLN := hide hln
      rw [← hln] at t0
      clear hc1 hx x1 x2 x3 HCx HAc hln
      simp only [clsXL] at HM
      go_wp2_with fail
      go_region_law (first
        | (refine Ow.step_app rfl (.tmp 13) (.tmp 20) 22 rfl Tryz.underlying22 hj hj0 hj1 hj2 (by decide) Ow.shp_cls (by first | rfl | simp [Act.eval, Act.put]) HO1.out (by first | rfl | simp [Act.eval, Act.put]) HR1.out (by have := HLn.out; simp; omega) (by decide) hszA ?_
           intro v' w10 hown hgrow
           obtain ⟨xa, xc, hv'⟩ := hown.shape
           obtain ⟨nr, hnr⟩ : ∃ q, q = (acc ++ [x]).length := ⟨_, rfl⟩
           have HNr := hide hnr
           rw [← hnr] at hv'
           clear hnr
           subst hv'
           have hkx := Ow.kx_grown HO1.out hgrow
           have HB10 := hide (HA.out.trans ((Ow.bel_grown HO1.out hszA hgrow).mono (by omega)))
           have HO10 : Hid (Ow.OwnX w10 w0.heap.size 42 6 (Ow.ClsO w10 w0.heap.size) (.slice xa nr xc) (acc ++ [x])) := hide (hown.low (Nat.le_refl _) fun _ _ h => h.kx hkx (by decide) (by decide) (by decide) (by decide) (by decide) (by decide))
           have HT10 := hide (hkx.blk _ _ _ _ HTA.out (by decide))
           have f10 := Ow.fz_blk HT10.out 0
           have t10 := cell_box HT10.out 0
           clear hown hgrow hkx HO1 HR1 HA HTA)
        | (go_simp
           refine (HM.out _ HDr.out).mono ?_
           rintro e w9 ⟨ys', rfl, ho9, hb9⟩
           obtain ⟨wp, wc, wk, rfl, q1, q2, q3, q4⟩ := ho9
           have hMO : Ow.ClsO w9 w0.heap.size x (clsXL x wp wc wk) := Ow.ClsO.on ⟨wp, wc, wk, rfl, q1, q2, q3, q4⟩ (Below.refl _ _) (Nat.le_trans HBr.out.size HDr.out.size)
           have hB9 := HDr.out.trans (hb9.mono HDr.out.size)
           have hA : Below wr.heap.size wr (w9.alloc (.cells (clsXL x wp wc wk).toArray 42)) := hB9.trans (((Below.refl _ _).alloc (Nat.le_refl _) _).mono hB9.size)
           have HR1 : Hid (RowX (w9.alloc (.cells (clsXL x wp wc wk).toArray 42)) 6 (Ow.ClsO (w9.alloc (.cells (clsXL x wp wc wk).toArray 42)) w0.heap.size) (.slice (some ⟨w9.heap.size, 0, none⟩) 1 1) [x]) := hide (Ow.row_one (hMO.on ((Below.refl _ _).alloc (Nat.le_refl _) _) (Nat.le_refl _)))
           have HO1 : Hid (Ow.OwnX (w9.alloc (.cells (clsXL x wp wc wk).toArray 42)) w0.heap.size 42 6 (Ow.ClsO (w9.alloc (.cells (clsXL x wp wc wk).toArray 42)) w0.heap.size) (.slice la ln lc) acc) := hide (by rw [HLN.out]; exact HO.out.on hA fun _ _ h => h.on hA (Nat.le_refl _))
           have HTA := hide (HT9.out _ hA)
           have hszA := Nat.le_trans hsr hA.size
           have HA := hide (HBr.out.trans (hA.mono (by omega)))
           have t9 := cell_box (HT9.out _ hB9) 0
           rw [← HLN.out] at t9
           obtain ⟨ua1, ud1, rfl⟩ := q1.shape
           obtain ⟨ua2, ud2, rfl⟩ := q2.shape
           obtain ⟨ua3, ud3, rfl⟩ := q3.shape
           clear hMO q1 q2 q3 q4 hb9 hB9 hA HM
           simp only [clsXL] at HR1 HO1 HA HTA ⊢
           have t9a := cell_box HTA.out 0
           rw [← HLN.out] at t9a))
      all_goals
        have hP := Ow.blk_put HT10.out 0 (.slice xa nr xc)
        have hK2 : Ow.Kx 24 w10 (w10.setCell ⟨w.heap.size + 2, 0, none⟩ (.slice xa nr xc)) := Ow.Kx.set ⟨_, _, HT10.out⟩ 0 (.slice xa nr xc)
        have HBz := hide (HB10.out.trans ((Below.refl _ _).setCell (p := ⟨w.heap.size + 2, 0, none⟩) (Nat.le_refl _) (.slice xa nr xc)))
        have HTz : Hid ((w10.setCell ⟨w.heap.size + 2, 0, none⟩ (.slice xa nr xc)).heap[w.heap.size + 2]? = some (.cells #[.slice xa nr xc] 24 (0, 0))) := hide hP
        have HOz := hide (HO10.out.kx hK2 (by decide) fun _ _ h => h.kx hK2 (by decide) (by decide) (by decide) (by decide) (by decide) (by decide))
        clear hP hK2
        go_wp2_with fail
        go_roundw
        case rel =>
          refine ⟨k + 1, acc ++ [x], xa, xc, by omega, by go_num, ?_, ?_, ?_, HTk⟩
          · exact HBz
          · rw [← HNr.out]; exact HTz
          · rw [← HNr.out]; exact HOz
        case measure => simp [intOf]; omega
    · have HE : Hid (acc = cs) := hide (by rw [HAc.out, List.take_of_length_le (by rw [← HN.out]; omega)])
      have hnl : ¬ ((k : Int) < (n : Int)) := by omega
      have t0 := cell_box HTr.out 0
      have s0 := cell_box (HC.out wr HBr.out).2 0
      have f0 := Ow.fz_blk (HC.out wr HBr.out).2 0
      have hw0 : w.heap.size ≤ w0.heap.size := by omega
      have hB : Below w.heap.size w wr := HB0.out.trans (HBr.out.mono (by omega))
      have HPt := hide (hB.trans ((Below.refl _ _).setCell (p := ⟨w.heap.size + 1, 0, none⟩) (Nat.le_succ _) (.slice la acc.length lc)))
      have hK : Ow.Kx 24 wr (wr.setCell ⟨w.heap.size + 1, 0, none⟩ (.slice la acc.length lc)) := Ow.Kx.set ⟨_, _, (HC.out wr HBr.out).2⟩ 0 (.slice la acc.length lc)
      have HOz := hide ((HO.out.kx hK (by decide) fun _ _ h => h.kx hK (by decide) (by decide) (by decide) (by decide) (by decide) (by decide)).low (base' := w.heap.size) hw0 fun _ _ h => h.on (Below.refl _ _) hw0)
      clear hB hK HAc HTr HBr HC HO
      obtain ⟨m, hm⟩ : ∃ q, q = acc.length := ⟨_, rfl⟩
      have HMx := hide hm
      rw [← hm] at t0 HPt HOz
      clear hm
      go_wp2_with fail
      refine bodyPost_ret (v := .agg #[.slice la m lc]) (by simp [results, Tryz.results51, go_sem, *]) rfl ?_
      refine ⟨_, rfl, ⟨?_, HZ.out⟩, HPt.out⟩
      have := HOz.out
      rw [HE.out] at this
      exact this
end Go.Proofs.YtbbbnciejmdpfaaGreatDoor
namespace Go.Proofs.YtbbbnciejmdpfaaGreatDoor
open Go.RowKit
theorem Hr.fld_prog (w : World) (a : Option Addr) (n c : Nat) : (Instr.field 24 (.agg #[.slice a n c]) 0).run Tryz.prog w = .ok (.slice a n c) w := by kernel_rfl
theorem RAll_any (cs : List Pp.XCls) (v : Value) (w : World) (h : ProgX w v cs) (hl : Pp.Light cs) :
    Calls Tryz.prog 25 #[.agg #[v]] w fun e w' => ∃ v', e = .returned v' ∧ Ow.OwnX w' w.heap.size 42 6 (Ow.ClsO w' w.heap.size) v' (Hr.allL cs) ∧ Below w.heap.size w w' := by
  obtain ⟨j0, hj, hj0, hj1, hj2⟩ := Ow.info_of Ow.i_cls
  have HT := hide (fun wx (hb : Below w.heap.size w wx) => TwinProgram_any cs v wx (h.on hb) hl)
  have hn := hl.1
  obtain ⟨pa, pc, rfl, _⟩ := h.1.len
  have HL : Hid (Hr.base.length + cs.length ≤ 1000000) := hide (by show 8 + cs.length ≤ 1000000; omega)
  obtain ⟨n, hn'⟩ : ∃ n, n = cs.length := ⟨_, rfl⟩
  have HN := hide hn'
  rw [← hn'] at HT hn ⊢
  clear h hl hn'
  have hx0 := hide (heap_alloc_new w (.cells #[.slice pa n pc] 24))
  have HB0 := hide ((Below.refl w.heap.size w).alloc (Nat.le_refl _) (.cells #[.slice pa n pc] 24))
  go_enter Tryz.func25, Tryz.ntmps25
  go_wp2_with fail
  generalize w.alloc (.cells #[.slice pa n pc] 24) = w0 at *
  have HC := hide (fun wx (hb : Below w0.heap.size w0 wx) => cell_box ((hb.block _ (Ow.lt_of_blk hx0.out)).trans hx0.out) 0)
  have HD : Hid (Below w0.heap.size w0 w0.drew) := hide (Below.drew (Below.refl _ _))
  have HW : Hid (∀ wx, Below w0.heap.size w0 wx → Below w.heap.size w wx) := hide fun wx hb => HB0.out.trans (hb.mono HB0.out.size)
  have c0 := HC.out w0 (Below.refl _ _)
  have cd := HC.out _ HD.out
  clear hx0
  have hfd := Hr.fld_prog
  go_region_law (first
    | (refine Ow.step_app rfl (.tmp 3) (.tmp 6) 22 rfl Tryz.underlying22 hj hj0 hj1 hj2 (by decide) Ow.shp_cls (by first | rfl | simp [Act.eval, Act.put]) HO1.out (by first | rfl | simp [Act.eval, Act.put]) HR1.out HL.out (by decide) (HW.out _ HB1.out).size ?_
       intro v' w9 hown hgrow
       have HB9 := hide ((HW.out _ HB1.out).trans (Ow.bel_grown HO1.out (HW.out _ HB1.out).size hgrow))
       have HO9 : Hid (Ow.OwnX w9 w.heap.size 42 6 (Ow.ClsO w9 w.heap.size) v' (Hr.allL cs)) := hide (hown.low (Nat.le_refl _) fun _ _ h => h.kx (Ow.kx_grown HO1.out hgrow) (by decide) (by decide) (by decide) (by decide) (by decide) (by decide))
       clear hown hgrow HO1 HR1)
    | (go_simp
       refine (Base_any _).mono ?_
       rintro e wb ⟨vb, rfl, hob, hbb⟩
       first
         | (have HBb := hide (HD.out.trans (hbb.mono HD.out.size))
            have HOb := hide (hob.low (base' := w.heap.size) (HW.out _ HD.out).size fun _ _ h => h)
            have cb := HC.out _ HBb.out
            clear hob hbb)
         | (have HB1 := hide (HBt.out.trans (hbb.mono HBt.out.size))
            have HO1 : Hid (Ow.OwnX wb w.heap.size 42 6 (Ow.ClsO wb w.heap.size) vb Hr.base) := hide (hob.low (HW.out _ HBt.out).size fun _ _ h => h.o _ _)
            have HR1 : Hid (RowX wb 6 (Ow.ClsO wb w.heap.size) (.slice ta cs.length tc) cs) := hide ((HPt.out.1.on hbb fun _ _ h => h.on hbb (Nat.le_refl _)).row Ow.shp_cls fun _ _ h => h)
            clear hob hbb))
    | (go_simp
       first
         | (refine (HT.out _ (HW.out _ HD.out)).mono ?_
            rintro e wt ⟨vt, rfl, hpt, hbt⟩
            obtain ⟨ta, tc, rfl⟩ := hpt.1.shape
            have HBt := hide (HD.out.trans (hbt.mono HD.out.size))
            have HPt : Hid (Ow.ProgO wt w.heap.size (.slice ta cs.length tc) cs) := hide (hpt.on (Below.refl _ _) (HW.out _ HD.out).size)
            clear hpt hbt)
         | (refine (HT.out _ (HW.out _ HBb.out)).mono ?_
            rintro e wt ⟨vt, rfl, hpt, hbt⟩
            obtain ⟨ta, tc, rfl⟩ := hpt.1.shape
            have HB1 := hide (HBb.out.trans (hbt.mono HBb.out.size))
            have HO1 : Hid (Ow.OwnX wt w.heap.size 42 6 (Ow.ClsO wt w.heap.size) vb Hr.base) := hide (HOb.out.on hbt fun _ _ h => h.o _ _)
            have HR1 : Hid (RowX wt 6 (Ow.ClsO wt w.heap.size) (.slice ta cs.length tc) cs) := hide ((hpt.on (Below.refl _ _) (HW.out _ HBb.out).size).1.row Ow.shp_cls fun _ _ h => h)
            clear hpt hbt)))
  all_goals
    go_wp2_with fail
    go_ret
    exact ⟨_, rfl, HO9.out, HB9.out⟩
end Go.Proofs.YtbbbnciejmdpfaaGreatDoor
namespace Go.Proofs.YtbbbnciejmdpfaaGreatDoor
open Go.RowKit
namespace Ow
section
variable {α : Type} {P P' : α → List Value → Prop} {sz base e : Nat} {w w' : World} {v : Value} {l : List α}
theorem run_app2 {Pr : Program} {t ty : TypeId} {i : TypeInfo} {n bytes : Nat} (ht : Pr.underlying t = some (.slice e)) (hi : Pr.info? e = some i) (hz : i.zero.map (fun z => z.cells.size) = some sz) (hsize : i.size = sz) (hby : i.bytes = bytes) (hsz : 0 < sz) (hs : Shp P sz)
    (ho : OwnX w base e sz P v l) {v2 : Value} {l2 : List α} (hr : RowX w sz P v2 l2) (h63 : l.length + l2.length ≤ 1000000) (hb2 : bytes ≤ 1000) (hbase : base ≤ w.heap.size) :
    ∃ v' w', (Builtin.append_ #[t, t] ty #[v, v2]).run Pr w = .ok v' w' ∧ OwnX w' base e sz P v' (l ++ l2) ∧ w.grownBy w' v.ownBlock ∧ (v'.ownBlock = v.ownBlock ∨ v'.ownBlock = some w.heap.size) := by
  cases hzz : i.zero with
  | none => rw [hzz] at hz; cases hz
  | some z =>
    rw [hzz] at hz; simp at hz
    obtain ⟨a, c, rfl, hc, hr⟩ := hr
    obtain ⟨news, hf, hown⟩ := ho
    have key : ∀ (ad : Addr) (news2 : List Value), Flat P l2 news2 → (∀ j u, news2[j]? = some u → w.cell? (ad.add j) = some u) → ∃ v' w', (Builtin.append_ #[t, t] ty #[v, .slice (some ad) l2.length c]).run Pr w = .ok v' w' ∧ OwnX w' base e sz P v' (l ++ l2) ∧ w.grownBy w' v.ownBlock ∧ (v'.ownBlock = v.ownBlock ∨ v'.ownBlock = some w.heap.size) := by
      intro ad news2 hf2 hc2
      have hbb : (l.length + l2.length) * bytes ≤ 1000000 * 1000 := Nat.mul_le_mul h63 hb2
      obtain ⟨v', w', h1, h2, h3, _, h4⟩ := run_append_own_at (P := Pr) w base t ty e i z sz bytes ht hi hzz hsize hby hz hsz v l.length news hown ad l2.length c news2 (hf2.len hs) hc2 (hf2.ones hs) (by unfold maxLen; omega) (by omega) hbase
      exact ⟨v', w', h1, ⟨news ++ news2, hf.app hf2, by rw [List.length_append]; exact h2⟩, h3, h4⟩
    rcases hr with rfl | ⟨b, o, rfl, hlt, hx⟩
    · cases a with
      | some ad => exact key ad [] rfl (by intro j u hj; simp at hj)
      | none =>
        refine ⟨v, w, ?_, ⟨news, by simpa using hf, by simpa using hown⟩, ⟨rfl, rfl, rfl, Nat.le_refl _, fun _ _ _ => rfl⟩, .inl rfl⟩
        rcases hown.2 with ⟨rfl, _⟩ | ⟨g, cap, cur, rfl, _, _, hnc, _⟩
        · simp [Builtin.append_, run_underlying ht, sizeOf, typeInfo, hi, Builtin.lenOf, Builtin.firstCells, loadCells, loadCellsFrom]
        · simp [Builtin.append_, run_underlying ht, sizeOf, typeInfo, hi, Builtin.lenOf, Builtin.firstCells, loadCells, loadCellsFrom, hnc, storeCells]
    · obtain ⟨news2, hf2, hc2⟩ := flat_of hs l2 o hx
      exact key ⟨b, o, none⟩ news2 hf2 (fun j u hj => by rw [Go.WideShapes.add_plain]; exact hc2 j u hj)
theorem wpList_app2 {Pr : Program} {ops : Array Oper} {rest : List Oper} {o : Oper} {a : Act} {Q : Exit → Act → World → Prop} (hgd : o.guard = none) (s x : Operand) (t : TypeId)
    (hop : o.op = .call { callee := .builtin .append, args := #[s, x], argTypes := #[t, t] }) {i : TypeInfo} {bytes : Nat}
    (ht : Pr.underlying t = some (.slice e)) (hi : Pr.info? e = some i) (hz : i.zero.map (fun z => z.cells.size) = some sz) (hsize : i.size = sz) (hby : i.bytes = bytes) (hsz : 0 < sz) (hs : Shp P sz)
    (hv : a.eval s = v) (ho : OwnX w base e sz P v l) {v2 : Value} {l2 : List α} (hv2 : a.eval x = v2) (hr : RowX w sz P v2 l2) (h63 : l.length + l2.length ≤ 1000000) (hb2 : bytes ≤ 1000) (hbase : base ≤ w.heap.size)
    (h : ∀ v' w', OwnX w' base e sz P v' (l ++ l2) → w.grownBy w' v.ownBlock → (v'.ownBlock = v.ownBlock ∨ v'.ownBlock = some w.heap.size) → wpList Pr ops Q rest (a.put o.dst v') w') : wpList Pr ops Q (o :: rest) a w := by
  refine wpList_plain hgd fun K hK => ?_
  obtain ⟨v', w', hrun, h1, h2, h3⟩ := run_app2 (Pr := Pr) (t := t) (ty := o.type) (n := 0) ht hi hz hsize hby hsz hs ho hr h63 hb2 hbase
  unfold Oper.wp execOp
  simp only [hop, resolve, invoke, builtin, Sem.run_bind, Sem.run_pure, Result.andThen_ok, List.map_toArray, List.map_cons, List.map_nil, hv, hv2, hrun]
  exact hK _ _ (h v' w' h1 h2 h3)
theorem row_grown {α : Type} {w w' : World} {sz : Nat} {P : α → List Value → Prop} {b o n c : Nat} {l : List α} {row : Option Nat} (h : RowX w sz P (.slice (some ⟨b, o, none⟩) n c) l) (hb : b < w.heap.size) (hg : w.grownBy w' row) (hne : row ≠ some b) : RowX w' sz P (.slice (some ⟨b, o, none⟩) n c) l := by
  obtain ⟨a', c', e, hc, h⟩ := h
  injection e with e1 e2 e3
  subst e1
  refine ⟨_, _, by rw [e2, e3], hc, ?_⟩
  rcases h with rfl | ⟨b', o', e', hlt, hr⟩
  · exact .inl rfl
  · cases e'
    refine .inr ⟨b, o, rfl, Nat.lt_of_lt_of_le hlt hg.size, fun k x hx => ?_⟩
    obtain ⟨ys, h1, h2⟩ := hr k x hx
    refine ⟨ys, h1, fun j u hj => ?_⟩
    rw [← h2 j u hj]
    have := hg.block b hb (fun e => hne e.symm)
    unfold World.cell?
    simp only [this]
end
end Ow
namespace Hr
theorem above_len {l : List Pp.XCls} (hl : ∀ c ∈ l, c.ifaces.length ≤ 1000) {c : Pp.XCls} (hc : c ∈ l) : (aboveL c).length ≤ 1001 := by
  have := hl c hc
  unfold aboveL
  rw [List.length_append]
  cases superL c <;> simp <;> omega
theorem most_le : ∀ {l : List Pp.XCls}, (∀ c ∈ l, c.ifaces.length ≤ 1000) → (l.flatMap aboveL).length ≤ 1001 * l.length
  | [], _ => by simp
  | c :: l, h => by
    have h1 := above_len (l := c :: l) h (c := c) (by simp)
    have h2 := most_le (l := l) fun c hc => h c (by simp [hc])
    rw [List.flatMap_cons, List.length_append, List.length_cons]
    omega
end Hr
theorem reach_any (l : List Pp.XCls) (v : Value) (n : Pp.Bs) (w : World) (h : RowX w 6 (ClsX w) v l) (hlen : l.length ≤ 100) (hif : ∀ c ∈ l, c.ifaces.length ≤ 1000) (hn : n.length ≤ maxLen) :
    Calls Tryz.prog 50 #[v, .string ⟨n.toArray⟩] w fun e w' => ∃ v' out, e = .returned v' ∧ Ow.OwnX w' w.heap.size 9 1 StrX v' out ∧ Hr.RInv l n out out.length ∧ Below w.heap.size w w' := by
  obtain ⟨i0, hj1, hj0, hj2, hj3⟩ := Ow.info_of Ow.i_str
  have H := hide h
  have HIf := hide hif
  have HL := hide hlen
  obtain ⟨la, lc, rfl, _⟩ := h.len
  obtain ⟨m, hm⟩ : ∃ m, m = l.length := ⟨_, rfl⟩
  have HM := hide hm
  have hmm : m ≤ 100 := by omega
  rw [← hm] at H ⊢
  have HN := hide hn
  have HA := hide (fun wx (hb : Below w.heap.size w wx) (x : Pp.Bs) => RAt_any l (.slice la m lc) x wx (H.out.on hb fun _ _ h => h.on hb) (by unfold maxLen; omega))
  clear h hif hlen hm hn
  have HB0 := hide ((Below.refl w.heap.size w).alloc (Nat.le_refl _) (.cells #[.string ⟨n.toArray⟩] 9))
  have HO0 : Hid (Ow.OwnX (w.alloc (.cells #[.string ⟨n.toArray⟩] 9)) w.heap.size 9 1 StrX (.slice (some ⟨w.heap.size, 0, none⟩) 1 1) [n]) := hide
    ⟨_, ⟨[.string ⟨n.toArray⟩], _, rfl, ⟨rfl, HN.out⟩, rfl⟩, rfl, .inr ⟨w.heap.size, 1, _, rfl, Nat.le_refl _, heap_alloc_new w _, Nat.le_refl _, by decide, rfl, rfl⟩⟩
  go_enter Tryz.func50, Tryz.ntmps50
  go_wp2_with fail
  go_loopw [5, 6] (fun ov i wr => ∃ (k : Nat) (out : List Pp.Bs), i = .int .i64 k ∧ Hid (Below w.heap.size w wr) ∧ Hid (Ow.OwnX wr w.heap.size 9 1 StrX ov out) ∧ Hid (Hr.RInv l n out k)) (fun ov i _ => Hr.mostL l - (intOf i).toNat)
  case atStart => exact ⟨0, [n], rfl, HB0, HO0, hide (Hr.RInv.start l n)⟩
  case round =>
    obtain ⟨k, out, rfl, HB, HO, HI⟩ := hrel
    clear HB0 HO0
    have hfew : out.length ≤ 100101 := by
      have h1 := HI.out.few
      have h2 := Hr.most_le HIf.out
      have h3 := HL.out
      unfold Hr.mostL at h1
      omega
    obtain ⟨oa, oc, rfl⟩ := HO.out.shape
    by_cases hlt : k < out.length
    · obtain ⟨x, hx⟩ : ∃ x, out[k]? = some x := ⟨out[k], List.getElem?_eq_getElem _⟩
      obtain ⟨g1, o1, eg1, ys1, hys1, hc1⟩ := Hr.row_at (HO.out.row Ow.shp_str fun _ _ h => h) hx
      subst eg1
      obtain rfl : ys1 = _ := hys1.1
      have r0 := hc1 wr (Below.refl _ _) 0 _ rfl
      simp only [Nat.mul_one, Nat.add_zero] at r0
      have HX := hide hx
      have hkm : k < Hr.mostL l := Nat.lt_of_lt_of_le hlt HI.out.few
      obtain ⟨p0, hp0⟩ : ∃ q, q = out.length := ⟨_, rfl⟩
      have HP0 := hide hp0
      rw [← hp0] at hlt hfew HO ⊢
      have hlt' : (k : Int) < (p0 : Int) := by omega
      have hp1 : (p0 : Int) ≤ 100101 := by omega
      have HAt := hide (HA.out wr HB.out x)
      clear hc1 hx hp0 hys1
      cases hpl : Hr.placeL l x with
      | none =>
        have HI2 := hide (HI.out.none HX.out hpl)
        rw [hpl] at HAt
        simp only [Hr.placeI] at HAt
        clear hpl HI
        generalize (⟨x.toArray⟩ : ByteArray) = xb at *
        go_wp2_with fail
        refine HAt.out.mono ?_
        rintro e w1 ⟨rfl, hb1⟩
        have HB1 := hide (HB.out.trans (hb1.mono HB.out.size))
        have HO1 := hide (HO.out.on hb1 fun _ _ h => h)
        clear hb1 r0 HB HO HAt
        rw [HP0.out] at HO1
        go_wp2_with fail
        go_roundw
        case rel => first | exact ⟨k + 1, out, by go_num, HB1, by rw [HP0.out]; exact HO1, HI2⟩ | ((repeat apply Exists.intro); exact ⟨⟨k + 1, out, by go_num, HB1, by rw [HP0.out]; exact HO1, HI2⟩, rfl⟩)
        case measure => simp [intOf]; omega
      | some q =>
        obtain ⟨c, hcq, -, -⟩ := Hr.placeL_lt hpl
        have HPL := hide hpl
        have HCQ := hide hcq
        have hqm : q < m := by rw [HM.out]; exact (List.getElem?_eq_some_iff.1 hcq).1
        obtain ⟨g2, o2, eg2, ys2, w2', hc2⟩ := Hr.row_at H.out hcq
        subst eg2
        have hif1 := HIf.out c (List.mem_of_getElem? hcq)
        have HAb := hide (fun wx (hb : Below w.heap.size w wx) => above_any c ys2 wx (w2'.on hb) hif1)
        have HC2 := hide hc2
        have HAL : Hid ((Hr.aboveL c).length ≤ 1001) := hide (Hr.above_len HIf.out (List.mem_of_getElem? hcq))
        rw [hpl] at HAt
        simp only [Hr.placeI] at HAt
        obtain ⟨va1, vd1, va2, vd2, va3, vd3, rfl⟩ := Hr.at_c w2'
        clear hpl hcq w2' hc2 hif1
        generalize (⟨x.toArray⟩ : ByteArray) = xb at *
        have hqm' : (q : Int) < (m : Int) := by omega
        have hmm' : (m : Int) ≤ 100 := by omega
        go_wp2_with fail
        refine HAt.out.mono ?_
        rintro e w1 ⟨rfl, hb1⟩
        have HB1 := hide (HB.out.trans (hb1.mono HB.out.size))
        have HO1 := hide (HO.out.on hb1 fun _ _ h => h)
        have hr := HC2.out w1 HB1.out
        have r10 := hr 0 _ rfl
        have r11 := hr 1 _ rfl
        have r12 := hr 2 _ rfl
        have r13 := hr 3 _ rfl
        have r14 := hr 4 _ rfl
        have r15 := hr 5 _ rfl
        rw [Nat.add_zero] at r10
        clear hb1 hr r0 HB HO HAt
        go_wp2_with fail
        refine (HAb.out w1 HB1.out).mono ?_
        rintro e w3 ⟨vn, rfl, hon, hb3⟩
        have HB3 := hide (HB1.out.trans (hb3.mono HB1.out.size))
        have HO3 := hide (HO1.out.on hb3 fun _ _ h => h)
        obtain ⟨p, hp⟩ : ∃ p, p = (Hr.aboveL c).length := ⟨_, rfl⟩
        have HP := hide hp
        rw [← hp] at HAL
        have hp1001 : p ≤ 1001 := HAL.out
        obtain ⟨nb, nc, HNe, HNR⟩ : ∃ (nb : Option Addr) (nc : Nat), Hid (vn = .slice nb p nc) ∧ Hid (p = 0 ∨ ∃ b, nb = some ⟨b, 0, none⟩ ∧ b < w3.heap.size ∧ (Value.slice (some ⟨g1, o1, none⟩) p0 oc).ownBlock ≠ some b ∧ RowX w3 1 StrX (.slice (some ⟨b, 0, none⟩) p nc) (Hr.aboveL c)) := by
          have hrow := hon.row Ow.shp_str fun _ _ h => h
          obtain ⟨news, hf, hown⟩ := hon
          rcases hown.2 with ⟨rfl, h0⟩ | ⟨g, cap, cur, rfl, hgb, hg, _⟩
          · exact ⟨none, 0, hide (by rw [hp, h0]), hide (.inl (by rw [hp, h0]))⟩
          · refine ⟨some ⟨g, 0, none⟩, cap, hide (by rw [hp]), hide (.inr ⟨g, rfl, Ow.lt_of_blk hg, ?_, by rw [hp]; exact hrow⟩)⟩
            intro he
            obtain ⟨news', _, hown'⟩ := HO1.out
            obtain ⟨c', hc'⟩ := Ow.own_at hown' g he
            have := Ow.lt_of_blk hc'
            omega
        have hvn := HNe.out
        subst hvn
        clear HNe hon hb3 hp r10 r11 r12 r13 r14 r15 HO1
        have HI3 := hide (HI.out.mid HX.out c)
        obtain ⟨vo, hvo⟩ : ∃ v, v = Value.slice (some ⟨g1, o1, none⟩) p0 oc := ⟨_, rfl⟩
        rw [← hvo] at HO3 HNR
        go_wp2_with fail
        rw [← hvo]
        clear hvo
        go_loopw [5, 9] (fun ov i wr => ∃ (j : Nat) (out : List Pp.Bs), j ≤ p ∧ i = .int .i64 j ∧ Hid (Below w.heap.size w wr) ∧ Hid (Ow.OwnX wr w.heap.size 9 1 StrX ov out) ∧ Hid (Hr.RMid l n out k x c j) ∧ Hid (p = 0 ∨ ∃ b, nb = some ⟨b, 0, none⟩ ∧ b < wr.heap.size ∧ ov.ownBlock ≠ some b ∧ RowX wr 1 StrX (.slice (some ⟨b, 0, none⟩) p nc) (Hr.aboveL c))) (fun ov i _ => p - (intOf i).toNat)
        case atStart => exact ⟨0, out, Nat.zero_le _, rfl, HB3, by rw [HP0.out] at *; exact HO3, HI3, HNR⟩
        case round =>
          obtain ⟨j, out2, hj, rfl, HB4, HO4, HM4, HN4⟩ := hrel
          clear HB3 HO3 HNR HI3 HI
          have hfw2 : out2.length ≤ 100101 := by
            have h1 := HM4.out.inv.few
            have h2 := Hr.most_le HIf.out
            have h3 := HL.out
            unfold Hr.mostL at h1
            omega
          by_cases hlj : j < p
          · obtain ⟨y, hy⟩ : ∃ y, (Hr.aboveL c)[j]? = some y := ⟨(Hr.aboveL c)[j]'(by rw [← HP.out]; exact hlj), List.getElem?_eq_getElem _⟩
            obtain ⟨b, hnb, hbs, hob, hrw⟩ := HN4.out.resolve_left (by omega)
            subst hnb
            obtain ⟨g5, o5, eg5, ys5, hys5, hc5⟩ := Hr.row_at hrw hy
            cases eg5
            obtain rfl : ys5 = _ := hys5.1
            have HYl := hide hys5.2
            have HHs := hide (fun wx (hb : Below wr.heap.size wr wx) => hb)
            have r0 := hc5 wr (Below.refl _ _) 0 _ rfl
            simp only [Nat.mul_one, Nat.add_zero, Nat.zero_add] at r0
            have HY := hide hy
            have HC5 := hide (fun wx (hb : Below wr.heap.size wr wx) => by have := hc5 wx hb 0 _ rfl; simp only [Nat.mul_one, Nat.add_zero, Nat.zero_add] at this; exact this)
            have HOB := hide hob
            have HRW := hide hrw
            have hlj' : (j : Int) < (p : Int) := by omega
            have hpi : (p : Int) ≤ 1001 := by omega
            obtain ⟨a5, c5, rfl⟩ := HO4.out.shape
            have HHas := hide (has_any out2 (.slice a5 out2.length c5) y wr (HO4.out.row Ow.shp_str fun _ _ h => h) (by unfold maxLen; omega))
            clear hc5 hy hys5 hob hrw HN4
            by_cases hm : y ∈ out2
            · have HM5 := hide (HM4.out.skip HY.out hm)
              rw [decide_eq_true hm] at HHas
              clear hm HM4
              generalize (⟨y.toArray⟩ : ByteArray) = yb at *
              go_wp2_with fail
              refine HHas.out.mono ?_
              rintro e w6 ⟨rfl, hb6⟩
              have HB6 := hide (HB4.out.trans (hb6.mono HB4.out.size))
              have HO6 := hide (HO4.out.on hb6 fun _ _ h => h)
              have HN6 : Hid (p = 0 ∨ ∃ b', some (⟨b, 0, none⟩ : Addr) = some ⟨b', 0, none⟩ ∧ b' < w6.heap.size ∧ (Value.slice a5 out2.length c5).ownBlock ≠ some b' ∧ RowX w6 1 StrX (.slice (some ⟨b', 0, none⟩) p nc) (Hr.aboveL c)) := hide (.inr ⟨b, rfl, Nat.lt_of_lt_of_le hbs hb6.size, HOB.out, HRW.out.on hb6 fun _ _ h => h⟩)
              clear hb6 r0 HHas HO4 HB4
              go_wp2_with fail
              go_roundw
              case rel => first | exact ⟨j + 1, out2, by omega, by go_num, HB6, HO6, HM5, HN6⟩ | ((repeat apply Exists.intro); exact ⟨⟨j + 1, out2, by omega, by go_num, HB6, HO6, HM5, HN6⟩, rfl⟩)
              case measure => simp [intOf]; omega
            · have HM5 := hide (HM4.out.push HPL.out HCQ.out HY.out hm)
              rw [decide_eq_false hm] at HHas
              clear hm HM4
              obtain ⟨p2, hp2⟩ : ∃ q, q = out2.length := ⟨_, rfl⟩
              have HP2 := hide hp2
              rw [← hp2] at HHas HO4 hfw2 HOB ⊢
              clear hp2
              go_wp2_with fail
              refine HHas.out.mono ?_
              rintro e w6 ⟨rfl, hb6⟩
              have r1 := HC5.out w6 hb6
              have hA := hb6.trans (((Below.refl _ _).alloc (Nat.le_refl _) (.cells #[.string ⟨y.toArray⟩] 9)).mono hb6.size)
              have HA6 := hide hA
              have HB6 := hide (HB4.out.trans (hA.mono HB4.out.size))
              have HO6 : Hid (Ow.OwnX (w6.alloc (.cells #[.string ⟨y.toArray⟩] 9)) w.heap.size 9 1 StrX (.slice a5 p2 c5) out2) := hide (HO4.out.on hA fun _ _ h => h)
              have HR6 : Hid (RowX (w6.alloc (.cells #[.string ⟨y.toArray⟩] 9)) 1 StrX (.slice (some ⟨w6.heap.size, 0, none⟩) 1 1) [y]) := hide (Hr.row_one (heap_alloc_new w6 _) ⟨rfl, HYl.out⟩)
              have HS6 : Hid (wr.heap.size ≤ (w6.alloc (.cells #[.string ⟨y.toArray⟩] 9)).heap.size) := hide hA.size
              have HS7 := hide hb6.size
              clear hb6 hA r0 HHas HO4
              go_wp2_with (at_builtin; refine Ow.wpList_app2 rfl (.tmp 44) (.tmp 49) 38 rfl Tryz.underlying38 hj1 hj0 hj2 hj3 (by decide) Ow.shp_str rfl HO6.out rfl HR6.out ?c1 (by decide) HB6.out.size ?_)
              case c1 => rw [← HP2.out]; simp; omega
              · intro v' w10 hown hgrow hob10
                have HB10 := hide (HB6.out.trans (Ow.bel_grown HO6.out HB6.out.size hgrow))
                have HO10 := hide hown
                have HN10 : Hid (p = 0 ∨ ∃ b', some (⟨b, 0, none⟩ : Addr) = some ⟨b', 0, none⟩ ∧ b' < w10.heap.size ∧ v'.ownBlock ≠ some b' ∧ RowX w10 1 StrX (.slice (some ⟨b', 0, none⟩) p nc) (Hr.aboveL c)) := hide (by
                  have hs6 := HS6.out
                  have hs7 := HS7.out
                  refine .inr ⟨b, rfl, by have := hgrow.size; omega, ?_, Ow.row_grown (HRW.out.on HA6.out fun _ _ h => h) (by omega) hgrow HOB.out⟩
                  rcases hob10 with h | h
                  · rw [h]; exact HOB.out
                  · rw [h]; intro he; injection he with he; omega)
                clear hown hgrow hob10 HO6 HR6 HB6 r1
                go_wp2_with fail
                go_roundw
                case rel => first | exact ⟨j + 1, _, by omega, by go_num, HB10, HO10, HM5, HN10⟩ | ((repeat apply Exists.intro); exact ⟨⟨j + 1, _, by omega, by go_num, HB10, HO10, HM5, HN10⟩, rfl⟩)
                case measure => simp [intOf]; omega
          · have HI4 := hide (HM4.out.stop HPL.out HCQ.out (by rw [← HP.out]; omega))
            have hnl : ¬ ((j : Int) < (p : Int)) := by omega
            clear HM4 HN4
            go_wp2_with fail
            go_roundw
            case rel => first | exact ⟨k + 1, out2, by go_num, HB4, HO4, HI4⟩ | ((repeat apply Exists.intro); exact ⟨⟨k + 1, out2, by go_num, HB4, HO4, HI4⟩, rfl⟩)
            case measure => simp [intOf]; omega
    · have hk : k = out.length := by have := HI.out.low; omega
      subst hk
      go_wp2_with fail
      go_ret
      exact ⟨_, _, rfl, HO.out, HI.out, HB.out⟩
end Go.Proofs.YtbbbnciejmdpfaaGreatDoor
namespace Go.Proofs.YtbbbnciejmdpfaaGreatDoor
namespace Pp
def GW (w : Wd) : Prop := Lx.wordA ⟨w.kind, w.text, w.num, 0⟩ = some (wtx w)
def GWs (n : Nat) (ws : List Wd) : Prop := (∀ w ∈ ws, GW w) ∧ ws.length ≤ n
theorem gw_nm {s : Bs} (h : Lx.nameL s = true) : GW (nm s) := by simp [GW, nm, Lx.wordA, wtx, h]
theorem gw_sg {s : Bs} (h : Lx.signL s = true) : GW (sg s) := by simp [GW, sg, Lx.wordA, wtx, h]
theorem gws_one {w : Wd} (h : GW w) : GWs 1 [w] := ⟨by simp [h], by simp⟩
theorem gws_cons {n : Nat} {w : Wd} {ws : List Wd} (h : GW w) (hs : GWs n ws) : GWs (n + 1) (w :: ws) := ⟨by intro x hx; simp at hx; rcases hx with rfl | hx; exact h; exact hs.1 x hx, by simp; exact hs.2⟩
theorem gws_mono {n m : Nat} {a : List Wd} (h : GWs n a) (hn : n ≤ m) : GWs m a := ⟨h.1, by have := h.2; omega⟩
theorem gw_ty {t : Ty} (h : okTy t) : GWs 3 (tyW t) := by
  obtain ⟨k, n⟩ := t
  have hi : GW (nm wInt) := gw_nm (by decide)
  have hv : GW (nm wVoid) := gw_nm (by decide)
  have hl : GW (sg wLK) := gw_sg (by decide)
  have hr : GW (sg wRK) := gw_sg (by decide)
  unfold tyW
  rcases h with ⟨h, _⟩ | ⟨h, h2⟩
  · simp only at h
    rcases h with rfl | rfl | rfl
    · exact gws_mono (gws_one hv) (by omega)
    · exact gws_mono (gws_one hi) (by omega)
    · exact gws_cons hi (gws_cons hl (gws_one hr))
  · simp only at h h2
    rcases h with rfl | rfl
    · exact gws_mono (gws_one (gw_nm h2.1)) (by omega)
    · exact gws_cons (gw_nm h2.1) (gws_cons hl (gws_one hr))
end Pp
end Go.Proofs.YtbbbnciejmdpfaaGreatDoor
namespace Go.Proofs.YtbbbnciejmdpfaaGreatDoor
open Go.RowKit
namespace Pp
def typeT (t : Ty) : Bs := if typeB t = true then ((tyW t).map wtx).flatten else []
end Pp
namespace Sh
theorem str_sz (a : List UInt8) : (⟨a.toArray⟩ : ByteArray).size = a.length := by simp [ByteArray.size]
end Sh
end Go.Proofs.YtbbbnciejmdpfaaGreatDoor
namespace Go.Proofs.YtbbbnciejmdpfaaGreatDoor
open Go.RowKit
theorem refDigit_any (c : Int) (w : World) :
    Calls Tryz.prog 93 #[.int .u8 c] w fun e w' => e = .returned (.bool (Lx.digI c)) ∧ w' = w := by
  go_enter Tryz.func93, Tryz.ntmps93
  go_wp2
  all_goals (go_ret; exact ⟨ret_bool (by simp [Lx.digI]; omega), rfl⟩)
theorem refLetter_any (c : Int) (w : World) :
    Calls Tryz.prog 92 #[.int .u8 c] w fun e w' => e = .returned (.bool (Lx.ltrI c)) ∧ w' = w := by
  go_enter Tryz.func92, Tryz.ntmps92
  go_wp2
  all_goals (go_ret; exact ⟨ret_bool (by simp [Lx.ltrI]; try omega), rfl⟩)
theorem refName_any (s : ByteArray) (hs : s.size ≤ maxLen) (w : World) :
    Calls Tryz.prog 81 #[.string s] w fun e w' => e = .returned (.bool (Lx.nameL s.data.toList)) ∧ w' = w := by
  unfold maxLen at hs
  by_cases h1 : s.size < 1
  · have Hf := Lx.nameL_short s h1
    rw [Hf]; clear Hf
    go_enter Tryz.func81, Tryz.ntmps81
    go_wp2
    go_ret
    exact ⟨rfl, rfl⟩
  by_cases h20 : 20 < s.size
  · have Hf := Lx.nameL_long s h20
    rw [Hf]; clear Hf
    go_enter Tryz.func81, Tryz.ntmps81
    go_wp2
    go_ret
    exact ⟨rfl, rfl⟩
  have Hf := Lx.nameL_mid s (by omega) (by omega)
  rw [Hf]; clear Hf
  have h1' : 0 < s.size := by omega
  obtain ⟨R, hR⟩ : ∃ R : Bool, R = (!Lx.dig s[0] && s.data.toList.all Lx.inw) := ⟨_, rfl⟩
  rw [← hR]
  have HR : Hid (R = (!Lx.dig s[0] && s.data.toList.all Lx.inw)) := hR
  clear hR
  have hmem : ∀ k, ∀ h : k < s.size, s[k] ∈ s.data.toList := fun k h => by simp [ByteArray.getElem_eq_getElem_data]
  have HM : Hid (∀ k, ∀ h : k < s.size, s[k] ∈ s.data.toList) := hmem
  clear hmem
  cases hd : Lx.ltr s[0] with
  | false =>
    have hd' : Lx.ltrI (s[0].toNat : Int) = false := hd
    have HF : Hid (R = false) := by
      show _ = _
      rw [HR.out, Bool.eq_false_iff]
      intro h
      rw [Bool.and_eq_true] at h
      have hi := List.all_eq_true.1 h.2 s[0] (HM.out 0 h1')
      rw [Lx.let_inw, h.1, hi] at hd; cases hd
    clear hd
    go_enter Tryz.func81, Tryz.ntmps81
    go_wp2_with (go_at_call 92; refine (refLetter_any _ _).mono ?_; rintro e w' ⟨rfl, rfl⟩)
    go_ret
    exact ⟨ret_bool (by rw [HF.out]), rfl⟩
  | true =>
    have hd' : Lx.ltrI (s[0].toNat : Int) = true := hd
    rw [Lx.let_inw, Bool.and_eq_true] at hd
    have HF : Hid (R = s.data.toList.all Lx.inw) := by show _ = _; rw [HR.out, hd.1]; rfl
    have H1 : Hid ((s.data.toList.take 1).all Lx.inw = true) := by
      show _ = _
      have := Lx.take_snoc s 0 h1'
      rw [show 0 + 1 = 1 from rfl] at this
      rw [this]; simp [hd.2]
    clear hd HR
    go_enter Tryz.func81, Tryz.ntmps81
    go_wp2_with (go_at_call 92; refine (refLetter_any _ _).mono ?_; rintro e w' ⟨rfl, rfl⟩)
    clear hd'
    go_loop [3] (fun i => ∃ k : Nat, 1 ≤ k ∧ k ≤ s.size ∧ i = .int .i64 k ∧ Hid ((s.data.toList.take k).all Lx.inw = true)) (fun i => s.size - (intOf i).toNat)
    case atStart => exact ⟨1, by omega, by omega, rfl, H1⟩
    case round =>
      obtain ⟨k, hk1, hk, rfl, HA⟩ := hrel
      clear H1
      by_cases hlt : k < s.size
      · have hts := Lx.take_snoc s k hlt
        have HT : Hid ((s.data.toList.take (k + 1)).all Lx.inw = ((s.data.toList.take k).all Lx.inw && Lx.inw s[k])) := by rw [hts]; exact Lx.all_snoc _ _ _
        clear hts
        cases hl : Lx.ltr s[k] with
        | true =>
          have hl' : Lx.ltrI (s[k].toNat : Int) = true := hl
          have HW : Hid (Lx.inw s[k] = true) := by show _ = _; rw [Lx.inw_let, hl]; rfl
          clear hl
          go_wp2_with (go_at_call 92; refine (refLetter_any _ _).mono ?_; rintro e w' ⟨rfl, rfl⟩)
          go_round
          case rel => exact ⟨k + 1, by omega, by omega, by go_num, by show _ = _; rw [HT.out, HA.out, HW.out]; rfl⟩
          case measure => simp [intOf]; omega
        | false =>
          have hl' : Lx.ltrI (s[k].toNat : Int) = false := hl
          cases hg : Lx.dig s[k] with
          | true =>
            have hg' : Lx.digI (s[k].toNat : Int) = true := hg
            have HW : Hid (Lx.inw s[k] = true) := by show _ = _; rw [Lx.inw_let, hl, hg]; rfl
            clear hl hg
            go_wp2_with (first | (go_at_call 92; refine (refLetter_any _ _).mono ?_; rintro e w' ⟨rfl, rfl⟩) | (go_at_call 93; refine (refDigit_any _ _).mono ?_; rintro e w' ⟨rfl, rfl⟩))
            go_round
            case rel => exact ⟨k + 1, by omega, by omega, by go_num, by show _ = _; rw [HT.out, HA.out, HW.out]; rfl⟩
            case measure => simp [intOf]; omega
          | false =>
            have hg' : Lx.digI (s[k].toNat : Int) = false := hg
            have HN : Hid (s.data.toList.all Lx.inw = false) := by
              show _ = _
              rw [Bool.eq_false_iff]; intro h
              have := List.all_eq_true.1 h s[k] (HM.out k hlt)
              rw [Lx.inw_let, hl, hg] at this; cases this
            clear hl hg
            go_wp2_with (first | (go_at_call 92; refine (refLetter_any _ _).mono ?_; rintro e w' ⟨rfl, rfl⟩) | (go_at_call 93; refine (refDigit_any _ _).mono ?_; rintro e w' ⟨rfl, rfl⟩))
            go_ret
            exact ⟨ret_bool (by rw [HF.out, HN.out]), rfl⟩
      · have HN : Hid (s.data.toList.all Lx.inw = true) := by
          show _ = _
          rw [← HA.out, List.take_of_length_le (by simp; omega)]
        go_wp2
        go_ret
        exact ⟨ret_bool (by rw [HF.out, HN.out]), rfl⟩
end Go.Proofs.YtbbbnciejmdpfaaGreatDoor
namespace Go.Proofs.YtbbbnciejmdpfaaGreatDoor
open Go.RowKit
theorem refKept_any (s : List UInt8) (w : World) :
    Calls Tryz.prog 82 #[.string ⟨s.toArray⟩] w fun e w' => e = .returned (.bool (Pp.keptL s)) ∧ Below w.heap.size w w' := by
  obtain ⟨K, hK⟩ : ∃ K, K = Pp.keptWords := ⟨_, rfl⟩
  have hL : Hid (K.length = 12) := by rw [hK]; exact hide rfl
  have hg : Hid (Pp.keptL s = K.any (· == s)) := by rw [hK]; rfl
  go_enter Tryz.func82, Tryz.ntmps82
  go_wp2
  generalize hA : (#[_, _, _, _, _, _, _, _, _, _, _, _] : Array Value) = A
  have hAK : A = (K.map fun t => Value.string ⟨t.toArray⟩).toArray := by rw [← hA, hK]; rfl
  clear hA hK
  have hAt : ∀ k, k < 12 → A[k]? = some (.string ⟨(K.getD k []).toArray⟩) := by
    intro k hk; rw [hAK]; simp [List.getD, show k < K.length by have := hL.out; omega]
  clear hAK
  go_loop [4] (fun i => ∃ k : Nat, k ≤ 12 ∧ i = .int .i64 k ∧ Hid ((K.take k).any (· == s) = false)) (fun i => 12 - (intOf i).toNat)
  case atStart => exact ⟨0, by omega, rfl, rfl⟩
  case round =>
    obtain ⟨k, hk, rfl, hp⟩ := hrel
    by_cases hlt : k < 12
    · have hix : (w.alloc (.cells A 9)).cell? ⟨w.heap.size, k, none⟩ = some (.string ⟨(K.getD k []).toArray⟩) := (cell_box (heap_alloc_new w _) k).trans (hAt k hlt)
      clear hAt
      obtain ⟨t, htt⟩ : ∃ t, t = K.getD k [] := ⟨_, rfl⟩
      rw [← htt] at hix
      have HT := hide htt
      clear htt
      have hlt' : (k : Int) < 12 := by omega
      by_cases hts : t = s
      · have hr := hide (hg.out.trans (Pp.any_at K s t k (by rw [hL.out]; exact hlt) HT.out hts))
        subst hts
        go_wp2
        go_ret
        rw [hr.out]
        exact ⟨rfl, (Below.refl _ _).alloc (Nat.le_refl _) _⟩
      · have hr := hide (Pp.any_step K s t k (by rw [hL.out]; exact hlt) HT.out hts hp.out)
        have hne : (t == s) = false := by simp [hts]
        go_wp2
        go_round
        case rel => exact ⟨k + 1, by omega, by go_num, hr⟩
        case measure => simp [intOf]; omega
    · have hr := hide (hg.out.trans (Pp.any_end K s k (by rw [hL.out]; exact hlt) hp.out))
      clear hAt
      go_wp2
      go_ret
      rw [hr.out]
      exact ⟨rfl, (Below.refl _ _).alloc (Nat.le_refl _) _⟩
end Go.Proofs.YtbbbnciejmdpfaaGreatDoor

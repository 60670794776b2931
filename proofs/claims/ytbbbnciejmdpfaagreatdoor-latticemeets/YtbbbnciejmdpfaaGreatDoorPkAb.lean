/- What the laws of this seat lean on: 3 texts. -/
import Derived.Test.YtbbbnciejmdpfaaGreatDoorPkAa
import Derived.Maps.AppendAt
import Derived.WideShapes
import Derived.Deep.RegionWith
import Derived.Deep.RegionLaw
import Derived.Deep.RegionHeld
set_option maxRecDepth 100000
set_option maxHeartbeats 64000000
set_option linter.unusedVariables false
set_option linter.unusedSimpArgs false
namespace Go.Proofs.YtbbbnciejmdpfaaGreatDoor
open Go.RowKit
namespace Ow
theorem lt_of_blk {w : World} {k : Nat} {o : Obj} (h : w.heap[k]? = some o) : k < w.heap.size := by
 rcases Nat.lt_or_ge k w.heap.size with h1 | h1
 · exact h1
 · rw [Array.getElem?_eq_none h1] at h; cases h
theorem own_shape {w : World} {base e size : Nat} {v : Value} {n : Nat} {xs : List Value} (h : w.ownsRow base e size v n xs) : ∃ a cap, v = .slice a n cap := by
 rcases h.2 with ⟨rfl, rfl⟩ | ⟨g, cap, cur, rfl, _⟩
 · exact ⟨none, 0, rfl⟩
 · exact ⟨_, cap, rfl⟩
theorem own_at {w : World} {base e size : Nat} {v : Value} {n : Nat} {xs : List Value} (h : w.ownsRow base e size v n xs) (k : Nat) (hk : v.ownBlock = some k) : ∃ c, w.heap[k]? = some (.cells c e (0, 0)) := by
 rcases h.2 with ⟨rfl, _⟩ | ⟨g, cap, cur, rfl, hb, hg, r⟩
 · cases hk
 · cases hk; exact ⟨cur, hg⟩
section
variable {α : Type} {P P' : α -> List Value -> Prop} {sz : Nat}
def Flat (P : α -> List Value -> Prop) : List α -> List Value -> Prop
 | [], ys => ys = []
 | x :: l, ys => ∃ a b, ys = a ++ b /\ P x a /\ Flat P l b
def Shp (P : α -> List Value -> Prop) (sz : Nat) : Prop := ∀ x ys, P x ys -> ys.length = sz /\ ∀ u ∈ ys, u.oneCell' = true
theorem Flat.app : ∀ {l l' : List α} {ys ys' : List Value}, Flat P l ys -> Flat P l' ys' -> Flat P (l ++ l') (ys ++ ys')
 | [], _, _, _, h, h' => by cases h; exact h'
 | x :: l, _, _, _, ⟨a, b, e, hx, hl⟩, h' => ⟨a, b ++ _, by rw [e, List.append_assoc], hx, hl.app h'⟩
theorem Flat.one {x : α} {ys : List Value} (h : P x ys) : Flat P [x] ys := ⟨ys, [], by simp, h, rfl⟩
theorem Flat.mono (hp : ∀ x ys, P x ys -> P' x ys) : ∀ {l : List α} {ys : List Value}, Flat P l ys -> Flat P' l ys
 | [], _, h => h
 | x :: l, _, ⟨a, b, e, hx, hl⟩ => ⟨a, b, e, hp _ _ hx, hl.mono hp⟩
theorem Flat.len (hs : Shp P sz) : ∀ {l : List α} {ys : List Value}, Flat P l ys -> ys.length = l.length * sz
 | [], _, h => by cases h; simp
 | x :: l, _, ⟨a, b, e, hx, hl⟩ => by rw [e, List.length_append, (hs _ _ hx).1, hl.len hs, List.length_cons, Nat.succ_mul, Nat.add_comm]
theorem Flat.ones (hs : Shp P sz) : ∀ {l : List α} {ys : List Value}, Flat P l ys -> ∀ u ∈ ys, u.oneCell' = true
 | [], _, h => by cases h; intro u hu; cases hu
 | x :: l, _, ⟨a, b, e, hx, hl⟩ => by
   intro u hu; rw [e, List.mem_append] at hu
   rcases hu with hu | hu
   · exact (hs _ _ hx).2 u hu
   · exact hl.ones hs u hu
theorem Flat.at (hs : Shp P sz) : ∀ {l : List α} {ys : List Value}, Flat P l ys -> ∀ (k : Nat) (x : α), l[k]? = some x -> ∃ zs, P x zs /\ ∀ (j : Nat) (u : Value), zs[j]? = some u -> ys[k * sz + j]? = some u
 | [], _, _ => by intro k x h; simp at h
 | y :: l, _, ⟨a, b, e, hx, hl⟩ => by
   intro k x h; have ha := (hs _ _ hx).1; cases k with
   | zero =>
     simp at h; subst h; refine ⟨a, hx, fun j u hj => ?_⟩
     have hjl : j < a.length := by
      rcases Nat.lt_or_ge j a.length with h | h
      · exact h
      · rw [List.getElem?_eq_none h] at hj; cases hj
     rw [e, Nat.zero_mul, Nat.zero_add, List.getElem?_append_left hjl]; exact hj
   | succ k =>
     simp at h; obtain ⟨zs, h1, h2⟩ := hl.at hs k x h; refine ⟨zs, h1, fun j u hj => ?_⟩; rw [e, List.getElem?_append_right (by rw [ha, Nat.succ_mul]; omega), ha]
     rw [show (k + 1) * sz + j - sz = k * sz + j from by rw [Nat.succ_mul]; omega]
     exact h2 j u hj
theorem flat_of {w : World} {b : Nat} (hs : Shp P sz) : ∀ (l : List α) (o : Nat), (∀ (k : Nat) (x : α), l[k]? = some x -> ∃ ys, P x ys /\ ∀ (j : Nat) (u : Value), ys[j]? = some u -> w.cell? ⟨b, o + k * sz + j, none⟩ = some u) ->
 ∃ news, Flat P l news /\ ∀ (j : Nat) (u : Value), news[j]? = some u -> w.cell? ⟨b, o + j, none⟩ = some u
 | [], o, h => ⟨[], rfl, by intro j u hj; simp at hj⟩
 | x :: l, o, h => by
   obtain ⟨a, ha, hc⟩ := h 0 x rfl
   obtain ⟨news, hn, hcn⟩ := flat_of hs l (o + sz) (fun k y hk => by
    obtain ⟨ys, h1, h2⟩ := h (k + 1) y (by simpa using hk)
    refine ⟨ys, h1, fun j u hj => ?_⟩; have := h2 j u hj; rw [show o + (k + 1) * sz + j = o + sz + k * sz + j from by rw [Nat.succ_mul]; omega] at this
    exact this)
   refine ⟨a ++ news, ⟨a, news, rfl, ha, hn⟩, fun j u hj => ?_⟩; have hl := (hs _ _ ha).1
   rcases Nat.lt_or_ge j a.length with hj1 | hj1
   · rw [List.getElem?_append_left hj1] at hj
     have := hc j u hj; rw [Nat.zero_mul, Nat.add_zero] at this; exact this
   · rw [List.getElem?_append_right hj1] at hj
     have := hcn _ u hj; rw [show o + sz + (j - a.length) = o + j from by omega] at this
     exact this
end
def OwnX {α : Type} (w : World) (base e sz : Nat) (P : α -> List Value -> Prop) (v : Value) (l : List α) : Prop :=
 ∃ news, Flat P l news /\ w.ownsRow base e sz v l.length news
structure Kx (e : TypeId) (w w' : World) : Prop where
 size : w.heap.size <= w'.heap.size
 blk : ∀ (k : Nat) (c : Array Value) (t : TypeId) (f : Nat × Nat), w.heap[k]? = some (.cells c t f) -> t ≠ e -> w'.heap[k]? = some (.cells c t f)
section
variable {α : Type} {P P' : α -> List Value -> Prop} {sz base e : Nat} {w w' : World} {v : Value} {l : List α}
theorem OwnX.nil (w : World) (base e sz : Nat) (P : α -> List Value -> Prop) : OwnX w base e sz P (.slice none 0 0) ([] : List α) := ⟨[], rfl, World.ownsRow_nil _ _ _ _⟩
theorem OwnX.keep (h : OwnX w base e sz P v l) (hp : ∀ x ys, P x ys -> P' x ys) (hk : ∀ (k : Nat) (c : Array Value), w.heap[k]? = some (Obj.cells c e (0, 0)) -> w'.heap[k]? = some (Obj.cells c e (0, 0))) : OwnX w' base e sz P' v l := by
 obtain ⟨news, hf, h1, h2⟩ := h; refine ⟨news, hf.mono hp, h1, ?_⟩
 rcases h2 with h2 | ⟨g, cap, cur, rfl, hb, hg, r⟩
 · exact .inl h2
 · exact .inr ⟨g, cap, cur, rfl, hb, hk g _ hg, r⟩
theorem OwnX.on (h : OwnX w base e sz P v l) (hb : Below w.heap.size w w') (hp : ∀ x ys, P x ys -> P' x ys) : OwnX w' base e sz P' v l :=
 h.keep hp fun k c hk => (hb.block k (lt_of_blk hk)).trans hk
theorem OwnX.kx {t : TypeId} (h : OwnX w base e sz P v l) (hk : Kx t w w') (ht : e ≠ t) (hp : ∀ x ys, P x ys -> P' x ys) : OwnX w' base e sz P' v l :=
 h.keep hp fun k c h => hk.blk k c e _ h ht
theorem OwnX.low {base' : Nat} (h : OwnX w base e sz P v l) (hb : base' <= base) (hp : ∀ x ys, P x ys -> P' x ys) : OwnX w base' e sz P' v l := by
 obtain ⟨news, hf, h1, h2⟩ := h; refine ⟨news, hf.mono hp, h1, ?_⟩
 rcases h2 with h2 | ⟨g, cap, cur, rfl, hg, r⟩
 · exact .inl h2
 · exact .inr ⟨g, cap, cur, rfl, Nat.le_trans hb hg, r⟩
theorem OwnX.shape (h : OwnX w base e sz P v l) : ∃ a c, v = .slice a l.length c := by
 obtain ⟨_, _, h⟩ := h; exact own_shape h
theorem OwnX.row (h : OwnX w base e sz P v l) (hs : Shp P sz) (hp : ∀ x ys, P x ys -> P' x ys) : RowX w sz P' v l := by
 obtain ⟨news, hf, h1, h2⟩ := h
 rcases h2 with ⟨rfl, h0⟩ | ⟨g, cap, cur, rfl, hb, hg, hc, hm, hz, ht⟩
 · have : l = [] := List.length_eq_zero_iff.1 h0
   subst this; exact ⟨none, 0, rfl, Nat.le_refl _, .inl rfl⟩
 · refine ⟨_, cap, rfl, hc, .inr ⟨g, 0, rfl, lt_of_blk hg, fun k x hx => ?_⟩⟩
   obtain ⟨zs, h3, h4⟩ := hf.at hs k x hx; refine ⟨zs, hp _ _ h3, fun j u hj => ?_⟩; have h5 := h4 j u hj; rw [Nat.zero_add, cell_box hg]
   have hlt : k * sz + j < news.length := by
    rcases Nat.lt_or_ge (k * sz + j) news.length with h | h
    · exact h
    · rw [List.getElem?_eq_none h] at h5; cases h5
   rw [<- ht, List.getElem?_take, if_pos (by rw [<- h1]; exact hlt)] at h5
   simpa using h5
theorem Kx.refl (e : TypeId) (w : World) : Kx e w w := ⟨Nat.le_refl _, fun _ _ _ _ h _ => h⟩
theorem Kx.trans {a b c : World} (h : Kx e a b) (k : Kx e b c) : Kx e a c := ⟨Nat.le_trans h.size k.size, fun i x t f hx h1 => k.blk i x t f (h.blk i x t f hx h1) h1⟩
theorem Kx.below (h : Below w.heap.size w w') : Kx e w w' := ⟨h.size, fun k c t f hk _ => (h.block k (lt_of_blk hk)).trans hk⟩
theorem kx_grown (h : OwnX w base e sz P v l) (hg : w.grownBy w' v.ownBlock) : Kx e w w' := by
 obtain ⟨news, _, h⟩ := h; refine ⟨hg.size, fun k c t f hk ht => (hg.block k (lt_of_blk hk) fun h2 => ?_).trans hk⟩; obtain ⟨c', hc'⟩ := own_at h k h2.symm; rw [hc'] at hk; simp at hk; exact ht hk.2.1.symm
theorem bel_grown (h : OwnX w base e sz P v l) (hB : base <= w.heap.size) (hg : w.grownBy w' v.ownBlock) : Below base w w' := by
 obtain ⟨news, _, h⟩ := h; exact Below.grown (Below.refl _ _) hg hB (fun k hk => (h.lt k hk).1)
theorem run_app {Pr : Program} {t ty : TypeId} {i : TypeInfo} {n bytes : Nat} (ht : Pr.underlying t = some (.slice e)) (hi : Pr.info? e = some i) (hz : i.zero.map (fun z => z.cells.size) = some sz) (hsize : i.size = sz) (hby : i.bytes = bytes) (hsz : 0 < sz) (hs : Shp P sz)
 (ho : OwnX w base e sz P v l) {v2 : Value} {l2 : List α} (hr : RowX w sz P v2 l2) (h63 : l.length + l2.length <= 1000000) (hb2 : bytes <= 1000) (hbase : base <= w.heap.size) :
 ∃ v' w', (Builtin.append_ #[t, t] ty #[v, v2]).run Pr w = .ok v' w' /\ OwnX w' base e sz P v' (l ++ l2) /\ w.grownBy w' v.ownBlock := by
 cases hzz : i.zero with
 | none => rw [hzz] at hz; cases hz
 | some z =>
   rw [hzz] at hz; simp at hz; obtain ⟨a, c, rfl, hc, hr⟩ := hr; obtain ⟨news, hf, hown⟩ := ho
   have key : ∀ (ad : Addr) (news2 : List Value), Flat P l2 news2 -> (∀ j u, news2[j]? = some u -> w.cell? (ad.add j) = some u) -> ∃ v' w', (Builtin.append_ #[t, t] ty #[v, .slice (some ad) l2.length c]).run Pr w = .ok v' w' /\ OwnX w' base e sz P v' (l ++ l2) /\ w.grownBy w' v.ownBlock := by
    intro ad news2 hf2 hc2; have hbb : (l.length + l2.length) * bytes <= 1000000 * 1000 := Nat.mul_le_mul h63 hb2; obtain ⟨v', w', h1, h2, h3, _⟩ := run_append_own_at (P := Pr) w base t ty e i z sz bytes ht hi hzz hsize hby hz hsz v l.length news hown ad l2.length c news2 (hf2.len hs) hc2 (hf2.ones hs) (by unfold maxLen; omega) (by omega) hbase
    exact ⟨v', w', h1, ⟨news ++ news2, hf.app hf2, by rw [List.length_append]; exact h2⟩, h3⟩
   rcases hr with rfl | ⟨b, o, rfl, hlt, hx⟩
   · cases a with
     | some ad => exact key ad [] rfl (by intro j u hj; simp at hj)
     | none =>
       refine ⟨v, w, ?_, ⟨news, by simpa using hf, by simpa using hown⟩, ⟨rfl, rfl, rfl, Nat.le_refl _, fun _ _ _ => rfl⟩⟩
       rcases hown.2 with ⟨rfl, _⟩ | ⟨g, cap, cur, rfl, _, _, hnc, _⟩
       · simp [Builtin.append_, run_underlying ht, sizeOf, typeInfo, hi, Builtin.lenOf, Builtin.firstCells, loadCells, loadCellsFrom]
       · simp [Builtin.append_, run_underlying ht, sizeOf, typeInfo, hi, Builtin.lenOf, Builtin.firstCells, loadCells, loadCellsFrom, hnc, storeCells]
   · obtain ⟨news2, hf2, hc2⟩ := flat_of hs l2 o hx
     exact key ⟨b, o, none⟩ news2 hf2 (fun j u hj => by rw [Go.WideShapes.add_plain]; exact hc2 j u hj)
theorem wpList_app {Pr : Program} {ops : Array Oper} {rest : List Oper} {o : Oper} {a : Act} {Q : Exit -> Act -> World -> Prop} (hgd : o.guard = none) (s x : Operand) (t : TypeId)
 (hop : o.op = .call { callee := .builtin .append, args := #[s, x], argTypes := #[t, t] }) {i : TypeInfo} {bytes : Nat}
 (ht : Pr.underlying t = some (.slice e)) (hi : Pr.info? e = some i) (hz : i.zero.map (fun z => z.cells.size) = some sz) (hsize : i.size = sz) (hby : i.bytes = bytes) (hsz : 0 < sz) (hs : Shp P sz)
 (hv : a.eval s = v) (ho : OwnX w base e sz P v l) {v2 : Value} {l2 : List α} (hv2 : a.eval x = v2) (hr : RowX w sz P v2 l2) (h63 : l.length + l2.length <= 1000000) (hb2 : bytes <= 1000) (hbase : base <= w.heap.size)
 (h : ∀ v' w', OwnX w' base e sz P v' (l ++ l2) -> w.grownBy w' v.ownBlock -> wpList Pr ops Q rest (a.put o.dst v') w') : wpList Pr ops Q (o :: rest) a w := by
 refine wpList_plain hgd fun K hK => ?_; obtain ⟨v', w', hrun, h1, h2⟩ := run_app (Pr := Pr) (t := t) (ty := o.type) (n := 0) ht hi hz hsize hby hsz hs ho hr h63 hb2 hbase; unfold Oper.wp execOp; simp only [hop, resolve, invoke, builtin, Sem.run_bind, Sem.run_pure, Result.andThen_ok, List.map_toArray, List.map_cons, List.map_nil, hv, hv2, hrun]; exact hK _ _ (h v' w' h1 h2)
theorem step_app {Pr : Program} {ops : Array Oper} {o : Oper} {a : Act} {K : Act -> World -> Prop} {Q : Exit -> Act -> World -> Prop} {E : Prop} (hgd : o.guard = none) (s x : Operand) (t : TypeId)
 (hop : o.op = .call { callee := .builtin .append, args := #[s, x], argTypes := #[t, t] }) {i : TypeInfo} {bytes : Nat}
 (ht : Pr.underlying t = some (.slice e)) (hi : Pr.info? e = some i) (hz : i.zero.map (fun z => z.cells.size) = some sz) (hsize : i.size = sz) (hby : i.bytes = bytes) (hsz : 0 < sz) (hs : Shp P sz)
 (hv : a.eval s = v) (ho : OwnX w base e sz P v l) {v2 : Value} {l2 : List α} (hv2 : a.eval x = v2) (hr : RowX w sz P v2 l2) (h63 : l.length + l2.length <= 1000000) (hb2 : bytes <= 1000) (hbase : base <= w.heap.size)
 (h : ∀ v' w', OwnX w' base e sz P v' (l ++ l2) -> w.grownBy w' v.ownBlock -> K (a.put o.dst v') w') :
 if Region.wanted o (yielded ops a.tmps) = true then Oper.wp Pr o a w K Q else E := by
 have hw : Region.wanted o (yielded ops a.tmps) = true := by simp [Region.wanted, hgd]
 rw [if_pos hw]; obtain ⟨v', w', hrun, h1, h2⟩ := run_app (Pr := Pr) (t := t) (ty := o.type) (n := 0) ht hi hz hsize hby hsz hs ho hr h63 hb2 hbase; unfold Oper.wp execOp; simp only [hop, resolve, invoke, builtin, Sem.run_bind, Sem.run_pure, Result.andThen_ok, List.map_toArray, List.map_cons, List.map_nil, hv, hv2, hrun]; exact h v' w' h1 h2
end
theorem shp_str : Shp StrX 1 := by rintro x ys ⟨rfl, _⟩; exact ⟨rfl, by intro u hu; simp [strL] at hu; subst hu; rfl⟩
theorem shp_ty : Shp TyX 2 := by rintro x ys ⟨rfl, _⟩; exact ⟨rfl, by intro u hu; simp [tyL] at hu; rcases hu with rfl | rfl <;> rfl⟩
theorem shp_fld : Shp FldX 4 := by rintro x ys ⟨rfl, _⟩; exact ⟨rfl, by intro u hu; simp [fldL] at hu; rcases hu with rfl | rfl | rfl | rfl <;> rfl⟩
theorem shp_ins : Shp InsX 4 := by rintro x ys ⟨rfl, _⟩; exact ⟨rfl, by intro u hu; simp [insL] at hu; rcases hu with rfl | rfl | rfl | rfl <;> rfl⟩
theorem shp_ctc : Shp CtcX 4 := by rintro x ys ⟨rfl, _⟩; exact ⟨rfl, by intro u hu; simp [ctcL] at hu; rcases hu with rfl | rfl | rfl | rfl <;> rfl⟩
def MthO (w : World) (base : Nat) (m : Pp.XMth) (ys : List Value) : Prop := ∃ vp vc vk, ys = mthXL m vp vc vk /\ OwnX w base 26 2 TyX vp m.params /\ OwnX w base 59 4 InsX vc m.code /\ OwnX w base 61 4 CtcX vk m.catches /\
 m.name.length <= maxLen /\ m.ret.name.length <= maxLen /\ m.params.length <= maxLen /\ m.code.length <= maxLen /\ m.catches.length <= maxLen
def ClsO (w : World) (base : Nat) (c : Pp.XCls) (ys : List Value) : Prop := ∃ vi vf vm, ys = clsXL c vi vf vm /\ OwnX w base 9 1 StrX vi c.ifaces /\ OwnX w base 52 4 FldX vf c.fields /\ OwnX w base 57 9 (MthO w base) vm c.methods /\
 c.name.length <= maxLen /\ c.super.length <= maxLen /\ c.ifaces.length <= maxLen /\ c.fields.length <= maxLen /\ c.methods.length <= maxLen
def ProgO (w : World) (base : Nat) (v : Value) (cs : List Pp.XCls) : Prop := OwnX w base 42 6 (ClsO w base) v cs /\ cs.length <= maxLen
theorem shp_mth {w : World} {base : Nat} : Shp (MthO w base) 9 := by
 rintro x ys ⟨vp, vc, vk, rfl, h1, h2, h3, _⟩; obtain ⟨_, _, rfl⟩ := h1.shape; obtain ⟨_, _, rfl⟩ := h2.shape; obtain ⟨_, _, rfl⟩ := h3.shape; exact ⟨rfl, by intro u hu; simp [mthXL] at hu; rcases hu with rfl | rfl | rfl | rfl | rfl | rfl | rfl | rfl | rfl <;> rfl⟩
theorem shp_cls {w : World} {base : Nat} : Shp (ClsO w base) 6 := by
 rintro x ys ⟨vp, vc, vk, rfl, h1, h2, h3, _⟩; obtain ⟨_, _, rfl⟩ := h1.shape; obtain ⟨_, _, rfl⟩ := h2.shape; obtain ⟨_, _, rfl⟩ := h3.shape; exact ⟨rfl, by intro u hu; simp [clsXL] at hu; rcases hu with rfl | rfl | rfl | rfl | rfl | rfl <;> rfl⟩
theorem MthO.x {w : World} {base : Nat} {m : Pp.XMth} {ys : List Value} (h : MthO w base m ys) : MthX w m ys := by
 obtain ⟨vp, vc, vk, rfl, h1, h2, h3, h4⟩ := h; exact ⟨vp, vc, vk, rfl, h1.row shp_ty fun _ _ h => h, h2.row shp_ins fun _ _ h => h, h3.row shp_ctc fun _ _ h => h, h4⟩
theorem ClsO.x {w : World} {base : Nat} {m : Pp.XCls} {ys : List Value} (h : ClsO w base m ys) : ClsX w m ys := by
 obtain ⟨vp, vc, vk, rfl, h1, h2, h3, h4⟩ := h; exact ⟨vp, vc, vk, rfl, h1.row shp_str fun _ _ h => h, h2.row shp_fld fun _ _ h => h, h3.row shp_mth fun _ _ h => h.x, h4⟩
theorem ProgO.x {w : World} {base : Nat} {v : Value} {cs : List Pp.XCls} (h : ProgO w base v cs) : ProgX w v cs := ⟨h.1.row shp_cls fun _ _ h => h.x, h.2⟩
theorem MthO.on {w w' : World} {base base' : Nat} {m : Pp.XMth} {ys : List Value} (h : MthO w base m ys) (hb : Below w.heap.size w w') (hl : base' <= base) : MthO w' base' m ys := by
 obtain ⟨vp, vc, vk, rfl, h1, h2, h3, h4⟩ := h; exact ⟨vp, vc, vk, rfl, (h1.on hb fun _ _ h => h).low hl fun _ _ h => h, (h2.on hb fun _ _ h => h).low hl fun _ _ h => h, (h3.on hb fun _ _ h => h).low hl fun _ _ h => h, h4⟩
theorem ClsO.on {w w' : World} {base base' : Nat} {m : Pp.XCls} {ys : List Value} (h : ClsO w base m ys) (hb : Below w.heap.size w w') (hl : base' <= base) : ClsO w' base' m ys := by
 obtain ⟨vp, vc, vk, rfl, h1, h2, h3, h4⟩ := h; exact ⟨vp, vc, vk, rfl, (h1.on hb fun _ _ h => h).low hl fun _ _ h => h, (h2.on hb fun _ _ h => h).low hl fun _ _ h => h, (h3.on hb fun _ _ h => h.on hb hl).low hl fun _ _ h => h, h4⟩
theorem ProgO.on {w w' : World} {base base' : Nat} {v : Value} {cs : List Pp.XCls} (h : ProgO w base v cs) (hb : Below w.heap.size w w') (hl : base' <= base) : ProgO w' base' v cs := ⟨(h.1.on hb fun _ _ h => h.on hb hl).low hl fun _ _ h => h, h.2⟩
theorem MthO.kx {t : TypeId} {w w' : World} {base : Nat} {m : Pp.XMth} {ys : List Value} (h : MthO w base m ys) (hk : Kx t w w') (h1 : 26 ≠ t) (h2 : 59 ≠ t) (h3 : 61 ≠ t) : MthO w' base m ys := by
 obtain ⟨vp, vc, vk, rfl, k1, k2, k3, h4⟩ := h; exact ⟨vp, vc, vk, rfl, k1.kx hk h1 fun _ _ h => h, k2.kx hk h2 fun _ _ h => h, k3.kx hk h3 fun _ _ h => h, h4⟩
theorem ClsO.kx {t : TypeId} {w w' : World} {base : Nat} {m : Pp.XCls} {ys : List Value} (h : ClsO w base m ys) (hk : Kx t w w') (h1 : 26 ≠ t) (h2 : 59 ≠ t) (h3 : 61 ≠ t) (h5 : 9 ≠ t) (h6 : 52 ≠ t) (h7 : 57 ≠ t) : ClsO w' base m ys := by
 obtain ⟨vp, vc, vk, rfl, k1, k2, k3, h4⟩ := h; exact ⟨vp, vc, vk, rfl, k1.kx hk h5 fun _ _ h => h, k2.kx hk h6 fun _ _ h => h, k3.kx hk h7 fun _ _ h => h.kx hk h1 h2 h3, h4⟩
end Ow
namespace Ow
theorem info_of {P : Program} {t : TypeId} {s z b : Nat} (h : (P.info? t).map (fun i => (i.zero.map (fun z => z.cells.size), i.size, i.bytes)) = some (some z, s, b)) : ∃ i, P.info? t = some i /\ i.zero.map (fun z => z.cells.size) = some z /\ i.size = s /\ i.bytes = b := by
 cases hi : P.info? t with
 | none => rw [hi] at h; cases h
 | some i => rw [hi] at h; simp only [Option.map_some, Option.some.injEq, Prod.mk.injEq] at h; exact ⟨i, rfl, h.1, h.2.1, h.2.2⟩
theorem i_str : (Tryz.prog.info? 9).map (fun i => (i.zero.map (fun z => z.cells.size), i.size, i.bytes)) = some (some 1, 1, 16) := by kernel_rfl
theorem i_ty : (Tryz.prog.info? 26).map (fun i => (i.zero.map (fun z => z.cells.size), i.size, i.bytes)) = some (some 2, 2, 24) := by kernel_rfl
theorem i_fld : (Tryz.prog.info? 52).map (fun i => (i.zero.map (fun z => z.cells.size), i.size, i.bytes)) = some (some 4, 4, 48) := by kernel_rfl
theorem i_ins : (Tryz.prog.info? 59).map (fun i => (i.zero.map (fun z => z.cells.size), i.size, i.bytes)) = some (some 4, 4, 48) := by kernel_rfl
theorem i_ctc : (Tryz.prog.info? 61).map (fun i => (i.zero.map (fun z => z.cells.size), i.size, i.bytes)) = some (some 4, 4, 40) := by kernel_rfl
theorem i_mth : (Tryz.prog.info? 57).map (fun i => (i.zero.map (fun z => z.cells.size), i.size, i.bytes)) = some (some 9, 9, 128) := by kernel_rfl
theorem i_cls : (Tryz.prog.info? 42).map (fun i => (i.zero.map (fun z => z.cells.size), i.size, i.bytes)) = some (some 6, 6, 112) := by kernel_rfl
theorem fz_blk {w : World} {b : Nat} {c : Array Value} {t : TypeId} (h : w.heap[b]? = some (.cells c t (0, 0))) (k : Nat) : w.frozen? ⟨b, k, none⟩ = false := by simp [World.frozen?, h]
def Ty (w : World) (b : Nat) (t : TypeId) : Prop := ∃ c f, w.heap[b]? = some (.cells c t f)
theorem Ty.set {w : World} {b : Nat} {t : TypeId} (h : Ty w b t) (g k : Nat) (u : Value) : Ty (w.setCell ⟨g, k, none⟩ u) b t := by
 obtain ⟨c, f, h⟩ := h; by_cases e : g = b
 · subst e
   have hlt := lt_of_blk h; have h' : w.heap[g] = .cells c t f := by simpa [Array.getElem?_eq_getElem hlt] using h
   refine ⟨c.setIfInBounds k u, f, ?_⟩; show (w.heap.modify g _)[g]? = _; rw [Array.getElem?_eq_getElem (by simpa using hlt), Array.getElem_modify_self, h']
   rfl
 · exact ⟨c, f, by rw [Below.heap_setCell _ _ _ _ (fun h2 => e h2.symm)]; exact h⟩
theorem Kx.set {w : World} {b : Nat} {t : TypeId} (h : Ty w b t) (k : Nat) (u : Value) : Kx t w (w.setCell ⟨b, k, none⟩ u) := by
 obtain ⟨c, f, h⟩ := h
 exact ⟨by simp, fun i x e g hi h1 => by
  rw [Below.heap_setCell _ _ _ _ (fun e2 => by subst e2; rw [h] at hi; simp at hi; exact h1 hi.2.1.symm)]; exact hi⟩
theorem sets12 {w : World} {n : Nat} {t : TypeId} {v3 v7 v8 u0 u1 u2 u3 u4 u5 u6 u7 u8 : Value} (h0 : Ty w n t) (h1 : Ty w (n + 1) t) :
 Kx t w ((((((((((((w.setCell ⟨n, 3, none⟩ v3).setCell ⟨n, 7, none⟩ v7).setCell ⟨n, 8, none⟩ v8).setCell ⟨n + 1, 0, none⟩ u0).setCell ⟨n + 1, 1, none⟩ u1).setCell ⟨n + 1, 2, none⟩ u2).setCell ⟨n + 1, 3, none⟩ u3).setCell ⟨n + 1, 4, none⟩ u4).setCell ⟨n + 1, 5, none⟩ u5).setCell ⟨n + 1, 6, none⟩ u6).setCell ⟨n + 1, 7, none⟩ u7).setCell ⟨n + 1, 8, none⟩ u8) /\
 Below n w ((((((((((((w.setCell ⟨n, 3, none⟩ v3).setCell ⟨n, 7, none⟩ v7).setCell ⟨n, 8, none⟩ v8).setCell ⟨n + 1, 0, none⟩ u0).setCell ⟨n + 1, 1, none⟩ u1).setCell ⟨n + 1, 2, none⟩ u2).setCell ⟨n + 1, 3, none⟩ u3).setCell ⟨n + 1, 4, none⟩ u4).setCell ⟨n + 1, 5, none⟩ u5).setCell ⟨n + 1, 6, none⟩ u6).setCell ⟨n + 1, 7, none⟩ u7).setCell ⟨n + 1, 8, none⟩ u8) := by
 have key : ∀ (g k : Nat) (u : Value) (x : World), n <= g -> Ty x g t -> (Ty x n t /\ Ty x (n + 1) t /\ Kx t w x /\ Below n w x) -> (Ty (x.setCell ⟨g, k, none⟩ u) n t /\ Ty (x.setCell ⟨g, k, none⟩ u) (n + 1) t /\ Kx t w (x.setCell ⟨g, k, none⟩ u) /\ Below n w (x.setCell ⟨g, k, none⟩ u)) := fun g k u x hg ht h => ⟨h.1.set _ _ _, h.2.1.set _ _ _, h.2.2.1.trans (Kx.set ht k u), h.2.2.2.trans ((Below.refl _ _).setCell hg _)⟩; have a0 : Ty w n t /\ Ty w (n + 1) t /\ Kx t w w /\ Below n w w := ⟨h0, h1, Kx.refl _ _, Below.refl _ _⟩; have a1 := key n 3 v3 _ (Nat.le_refl _) a0.1 a0; have a2 := key n 7 v7 _ (Nat.le_refl _) a1.1 a1; have a3 := key n 8 v8 _ (Nat.le_refl _) a2.1 a2; have a4 := key (n + 1) 0 u0 _ (Nat.le_succ _) a3.2.1 a3; have a5 := key (n + 1) 1 u1 _ (Nat.le_succ _) a4.2.1 a4; have a6 := key (n + 1) 2 u2 _ (Nat.le_succ _) a5.2.1 a5; have a7 := key (n + 1) 3 u3 _ (Nat.le_succ _) a6.2.1 a6; have a8 := key (n + 1) 4 u4 _ (Nat.le_succ _) a7.2.1 a7; have a9 := key (n + 1) 5 u5 _ (Nat.le_succ _) a8.2.1 a8; have b1 := key (n + 1) 6 u6 _ (Nat.le_succ _) a9.2.1 a9; have b2 := key (n + 1) 7 u7 _ (Nat.le_succ _) b1.2.1 b1; have b3 := key (n + 1) 8 u8 _ (Nat.le_succ _) b2.2.1 b2; exact ⟨b3.2.2.1, b3.2.2.2⟩
theorem blk_alloc2a (w : World) (o o' : Obj) : ((w.alloc o).alloc o').heap[w.heap.size]? = some o := by
 exact (heap_alloc_old (w.alloc o) o' (by simp)).trans (heap_alloc_new w o)
theorem blk_alloc2b (w : World) (o o' : Obj) : ((w.alloc o).alloc o').heap[w.heap.size + 1]? = some o' := by
 have := heap_alloc_new (w.alloc o) o'
 simpa using this
theorem bel_alloc2 (w : World) (o o' : Obj) : Below w.heap.size w ((w.alloc o).alloc o') := ((Below.refl w.heap.size w).alloc (Nat.le_refl _) o).alloc (by simp) o'
end Ow
theorem TwinTypes_any (l : List Pp.Ty) (v : Value) (w : World) (h : RowX w 2 TyX v l) (hn : l.length <= 100000) :
 Calls Tryz.prog 85 #[v] w fun e w' => ∃ v', e = .returned v' /\ Ow.OwnX w' w.heap.size 26 2 TyX v' l /\ Below w.heap.size w w' := by
 obtain ⟨i0, hi, hz0, hz1, hz2⟩ := Ow.info_of Ow.i_ty; have HR := hide h; obtain ⟨a, c, rfl, hc⟩ := h.len; clear h; go_enter Tryz.func85, Tryz.ntmps85
 go_wp2_with (at_builtin; refine Ow.wpList_app rfl (.tmp 4) (.tmp 5) 53 rfl Tryz.underlying53 hi hz0 hz1 hz2 (by decide) Ow.shp_ty rfl (Ow.OwnX.nil w w.heap.size 26 2 TyX) rfl HR.out ?c1 (by decide) (Nat.le_refl _) ?_)
 case c1 => simp; omega
 · intro v' w' hown hgrow
   have hB : Below w.heap.size w w' := Ow.bel_grown (Ow.OwnX.nil w w.heap.size 26 2 TyX) (Nat.le_refl _) hgrow; clear hgrow; go_wp2_with fail; go_ret; exact ⟨_, rfl, hown, hB⟩
theorem TwinMethod_any (m : Pp.XMth) (ys : List Value) (w : World) (h : MthX w m ys) (hl : Pp.LtM m) :
 Calls Tryz.prog 71 #[.agg ys.toArray] w fun e w' => ∃ ys', e = .returned (.agg ys'.toArray) /\ Ow.MthO w' w.heap.size m ys' /\ Below w.heap.size w w' := by
 obtain ⟨vp, vc, vk, rfl, p1, i1, k1, z1⟩ := h; obtain ⟨j0, hj, hj0, hj1, hj2⟩ := Ow.info_of Ow.i_ins; obtain ⟨k0, hk, hk0, hk1, hk2⟩ := Ow.info_of Ow.i_ctc; have HZ := hide z1; have HL := hide hl.1; have HT := hide (fun w' (hb : Below w.heap.size w w') => TwinTypes_any m.params vp w' (p1.on hb fun _ _ h => h) (by have := hl.1.2.1; omega))
 have HI := hide (fun w' (hb : Below w.heap.size w w') => i1.on hb fun _ _ h => h); have HK := hide (fun w' (hb : Below w.heap.size w w') => k1.on hb fun _ _ h => h); obtain ⟨pa, pc, rfl, _⟩ := p1.len; obtain ⟨ia, ic, rfl, _⟩ := i1.len; obtain ⟨ka, kc, rfl, _⟩ := k1.len; clear p1 i1 k1 z1 hl; simp only [mthXL, List.toArray]; go_enter Tryz.func71, Tryz.ntmps71; go_wp2_with fail; have hx0 := Ow.blk_alloc2a w (.cells #[.string ⟨m.name.toArray⟩, .bool m.stat, .bool m.abst, .slice pa m.params.length pc, .int .i64 m.ret.kind, .string ⟨m.ret.name.toArray⟩, .int .i64 m.locals, .slice ia m.code.length ic, .slice ka m.catches.length kc] 57) (.cells #[.string ⟨#[]⟩, .bool false, .bool false, .slice none 0 0, .int .i64 0, .string ⟨#[]⟩, .int .i64 0, .slice none 0 0, .slice none 0 0] 57); have hx1 := Ow.blk_alloc2b w (.cells #[.string ⟨m.name.toArray⟩, .bool m.stat, .bool m.abst, .slice pa m.params.length pc, .int .i64 m.ret.kind, .string ⟨m.ret.name.toArray⟩, .int .i64 m.locals, .slice ia m.code.length ic, .slice ka m.catches.length kc] 57) (.cells #[.string ⟨#[]⟩, .bool false, .bool false, .slice none 0 0, .int .i64 0, .string ⟨#[]⟩, .int .i64 0, .slice none 0 0, .slice none 0 0] 57); have HB0 := hide (Ow.bel_alloc2 w (.cells #[.string ⟨m.name.toArray⟩, .bool m.stat, .bool m.abst, .slice pa m.params.length pc, .int .i64 m.ret.kind, .string ⟨m.ret.name.toArray⟩, .int .i64 m.locals, .slice ia m.code.length ic, .slice ka m.catches.length kc] 57) (.cells #[.string ⟨#[]⟩, .bool false, .bool false, .slice none 0 0, .int .i64 0, .string ⟨#[]⟩, .int .i64 0, .slice none 0 0, .slice none 0 0] 57)); have hsz0 : w.heap.size + 1 < ((w.alloc (.cells #[.string ⟨m.name.toArray⟩, .bool m.stat, .bool m.abst, .slice pa m.params.length pc, .int .i64 m.ret.kind, .string ⟨m.ret.name.toArray⟩, .int .i64 m.locals, .slice ia m.code.length ic, .slice ka m.catches.length kc] 57)).alloc (.cells #[.string ⟨#[]⟩, .bool false, .bool false, .slice none 0 0, .int .i64 0, .string ⟨#[]⟩, .int .i64 0, .slice none 0 0, .slice none 0 0] 57)).heap.size := by simp
 generalize ((w.alloc (.cells #[.string ⟨m.name.toArray⟩, .bool m.stat, .bool m.abst, .slice pa m.params.length pc, .int .i64 m.ret.kind, .string ⟨m.ret.name.toArray⟩, .int .i64 m.locals, .slice ia m.code.length ic, .slice ka m.catches.length kc] 57)).alloc (.cells #[.string ⟨#[]⟩, .bool false, .bool false, .slice none 0 0, .int .i64 0, .string ⟨#[]⟩, .int .i64 0, .slice none 0 0, .slice none 0 0] 57)) = w0 at *
 have HC : Hid (∀ wx, Below w0.heap.size w0 wx -> (∀ k, wx.cell? ⟨w.heap.size, k, none⟩ = #[.string ⟨m.name.toArray⟩, .bool m.stat, .bool m.abst, .slice pa m.params.length pc, .int .i64 m.ret.kind, .string ⟨m.ret.name.toArray⟩, .int .i64 m.locals, .slice ia m.code.length ic, .slice ka m.catches.length kc][k]?) /\ (∀ k, wx.frozen? ⟨w.heap.size, k, none⟩ = false) /\ (∀ k, wx.cell? ⟨w.heap.size + 1, k, none⟩ = #[.string ⟨#[]⟩, .bool false, .bool false, .slice none 0 0, .int .i64 0, .string ⟨#[]⟩, .int .i64 0, .slice none 0 0, .slice none 0 0][k]?) /\ (∀ k, wx.frozen? ⟨w.heap.size + 1, k, none⟩ = false)) := hide fun wx hb => by
  have e0 := (hb.block w.heap.size (by omega)).trans hx0
  have e1 := (hb.block (w.heap.size + 1) hsz0).trans hx1; exact ⟨fun k => cell_box e0 k, fun k => Ow.fz_blk e0 k, fun k => cell_box e1 k, fun k => Ow.fz_blk e1 k⟩
 have HD : Hid (Below w0.heap.size w0 w0.drew) := hide (Below.drew (Below.refl _ _)); have HM0 : Hid (∀ wx, Below w0.heap.size w0 wx -> Ow.Ty wx w.heap.size 57) := hide fun wx hb => ⟨_, _, (hb.block w.heap.size (by omega)).trans hx0⟩
 have HM1 : Hid (∀ wx, Below w0.heap.size w0 wx -> Ow.Ty wx (w.heap.size + 1) 57) := hide fun wx hb => ⟨_, _, (hb.block (w.heap.size + 1) hsz0).trans hx1⟩; clear hx0 hx1 hsz0; have c3 : w0.cell? ⟨w.heap.size, 3, none⟩ = some (.slice pa m.params.length pc) := (HC.out w0 (Below.refl _ _)).1 3; have c7 : w0.cell? ⟨w.heap.size, 7, none⟩ = some (.slice ia m.code.length ic) := (HC.out w0 (Below.refl _ _)).1 7; have c8 : w0.cell? ⟨w.heap.size, 8, none⟩ = some (.slice ka m.catches.length kc) := (HC.out w0 (Below.refl _ _)).1 8
 go_region_law (first
  | (refine Ow.step_app rfl (.tmp 8) (.tmp 10) 54 rfl Tryz.underlying54 hj hj0 hj1 hj2 (by decide) Ow.shp_ins (by first | rfl | simp [Act.eval, Act.put]) (Ow.OwnX.nil w5 w5.heap.size 59 4 InsX) (by first | rfl | simp [Act.eval, Act.put]) (HI.out w5 (HB0.out.trans (HB5.out.mono HB0.out.size))) (by have := HL.out.2.2.1; simp; omega) (by decide) (Nat.le_refl _) ?_
     intro v6 w6 ho6 hg6; have HO6 := hide ho6; have H6 := hide (Ow.bel_grown (Ow.OwnX.nil w5 w5.heap.size 59 4 InsX) (Nat.le_refl _) hg6); have HB6 := hide (HB5.out.trans (H6.out.mono HB5.out.size)); obtain ⟨a6, n6, rfl⟩ := ho6.shape; have c68 : w6.cell? ⟨w.heap.size, 8, none⟩ = some (.slice ka m.catches.length kc) := (HC.out w6 HB6.out).1 8
     clear ho6 hg6)
  | (refine Ow.step_app rfl (.tmp 12) (.tmp 14) 55 rfl Tryz.underlying55 hk hk0 hk1 hk2 (by decide) Ow.shp_ctc (by first | rfl | simp [Act.eval, Act.put]) (Ow.OwnX.nil w6 w6.heap.size 61 4 CtcX) (by first | rfl | simp [Act.eval, Act.put]) (HK.out w6 (HB0.out.trans (HB6.out.mono HB0.out.size))) (by have := HL.out.2.2.2.1; simp; omega) (by decide) (Nat.le_refl _) ?_
     intro v7 w7 ho7 hg7; have HO7 := hide ho7; have H7 := hide (Ow.bel_grown (Ow.OwnX.nil w6 w6.heap.size 61 4 CtcX) (Nat.le_refl _) hg7); have HB7 := hide (HB6.out.trans (H7.out.mono HB6.out.size)); obtain ⟨a7, n7, rfl⟩ := ho7.shape; have d3 : w7.cell? ⟨w.heap.size, 3, none⟩ = some (.slice pa m.params.length pc) := (HC.out w7 HB7.out).1 3; have d7 : w7.cell? ⟨w.heap.size, 7, none⟩ = some (.slice ia m.code.length ic) := (HC.out w7 HB7.out).1 7; have d8 : w7.cell? ⟨w.heap.size, 8, none⟩ = some (.slice ka m.catches.length kc) := (HC.out w7 HB7.out).1 8; have f3 := (HC.out w7 HB7.out).2.1 3; have f7 := (HC.out w7 HB7.out).2.1 7; have f8 := (HC.out w7 HB7.out).2.1 8
     clear ho7 hg7)
  | (go_simp
     refine (HT.out _ (HB0.out.trans (HD.out.mono HB0.out.size))).mono ?_; rintro e w5 ⟨v5, rfl, ho5, hb5⟩; have HO5 := hide ho5; have HB5 := hide (HD.out.trans (hb5.mono HD.out.size)); obtain ⟨a5, n5, rfl⟩ := ho5.shape; have c57 : w5.cell? ⟨w.heap.size, 7, none⟩ = some (.slice ia m.code.length ic) := (HC.out w5 HB5.out).1 7; have c58 : w5.cell? ⟨w.heap.size, 8, none⟩ = some (.slice ka m.catches.length kc) := (HC.out w5 HB5.out).1 8
     clear ho5 hb5))
 all_goals
  have g0 : w7.cell? ⟨w.heap.size, 0, none⟩ = some (.string ⟨m.name.toArray⟩) := (HC.out w7 HB7.out).1 0; have g1 : w7.cell? ⟨w.heap.size, 1, none⟩ = some (.bool m.stat) := (HC.out w7 HB7.out).1 1; have g2 : w7.cell? ⟨w.heap.size, 2, none⟩ = some (.bool m.abst) := (HC.out w7 HB7.out).1 2; have g4 : w7.cell? ⟨w.heap.size, 4, none⟩ = some (.int .i64 m.ret.kind) := (HC.out w7 HB7.out).1 4; have g5 : w7.cell? ⟨w.heap.size, 5, none⟩ = some (.string ⟨m.ret.name.toArray⟩) := (HC.out w7 HB7.out).1 5; have g6 : w7.cell? ⟨w.heap.size, 6, none⟩ = some (.int .i64 m.locals) := (HC.out w7 HB7.out).1 6; have e0 : w7.cell? ⟨w.heap.size + 1, 0, none⟩ = some (.string ⟨#[]⟩) := (HC.out w7 HB7.out).2.2.1 0; have q0 := (HC.out w7 HB7.out).2.2.2 0; have e1 : w7.cell? ⟨w.heap.size + 1, 1, none⟩ = some (.bool false) := (HC.out w7 HB7.out).2.2.1 1; have q1 := (HC.out w7 HB7.out).2.2.2 1; have e2 : w7.cell? ⟨w.heap.size + 1, 2, none⟩ = some (.bool false) := (HC.out w7 HB7.out).2.2.1 2; have q2 := (HC.out w7 HB7.out).2.2.2 2; have e3 : w7.cell? ⟨w.heap.size + 1, 3, none⟩ = some (.slice none 0 0) := (HC.out w7 HB7.out).2.2.1 3; have q3 := (HC.out w7 HB7.out).2.2.2 3; have e4 : w7.cell? ⟨w.heap.size + 1, 4, none⟩ = some (.int .i64 0) := (HC.out w7 HB7.out).2.2.1 4; have q4 := (HC.out w7 HB7.out).2.2.2 4; have e5 : w7.cell? ⟨w.heap.size + 1, 5, none⟩ = some (.string ⟨#[]⟩) := (HC.out w7 HB7.out).2.2.1 5; have q5 := (HC.out w7 HB7.out).2.2.2 5; have e6 : w7.cell? ⟨w.heap.size + 1, 6, none⟩ = some (.int .i64 0) := (HC.out w7 HB7.out).2.2.1 6; have q6 := (HC.out w7 HB7.out).2.2.2 6; have e7 : w7.cell? ⟨w.heap.size + 1, 7, none⟩ = some (.slice none 0 0) := (HC.out w7 HB7.out).2.2.1 7; have q7 := (HC.out w7 HB7.out).2.2.2 7; have e8 : w7.cell? ⟨w.heap.size + 1, 8, none⟩ = some (.slice none 0 0) := (HC.out w7 HB7.out).2.2.1 8; have q8 := (HC.out w7 HB7.out).2.2.2 8; clear c3 c7 c8; have T0 : Ow.Ty w7 w.heap.size 57 := HM0.out w7 HB7.out; have T1 : Ow.Ty w7 (w.heap.size + 1) 57 := HM1.out w7 HB7.out; have HSp := hide (Ow.sets12 (v3 := .slice a5 m.params.length n5) (v7 := .slice a6 m.code.length n6) (v8 := .slice a7 m.catches.length n7) (u0 := .string ⟨m.name.toArray⟩) (u1 := .bool m.stat) (u2 := .bool m.abst) (u3 := .slice a5 m.params.length n5) (u4 := .int .i64 m.ret.kind) (u5 := .string ⟨m.ret.name.toArray⟩) (u6 := .int .i64 m.locals) (u7 := .slice a6 m.code.length n6) (u8 := .slice a7 m.catches.length n7) T0 T1); clear T0 T1; go_wp2_with fail; refine bodyPost_ret (v := .agg (mthXL m (.slice a5 m.params.length n5) (.slice a6 m.code.length n6) (.slice a7 m.catches.length n7)).toArray) (by simp [results, Tryz.results71, go_sem, mthXL, *]) rfl ?_
  have hB7 := HB0.out.trans (HB7.out.mono HB0.out.size); have s5 := HB5.out.size; have s6 := HB6.out.size; have s0 := HB0.out.size; refine ⟨_, rfl, ⟨_, _, _, rfl, ?_, ?_, ?_, HZ.out⟩, hB7.trans HSp.out.2⟩
  · exact ((((HO5.out.on H6.out fun _ _ h => h).on H7.out fun _ _ h => h).kx HSp.out.1 (by decide) fun _ _ h => h).low s0 fun _ _ h => h)
  · exact (((HO6.out.on H7.out fun _ _ h => h).kx HSp.out.1 (by decide) fun _ _ h => h).low (Nat.le_trans s0 s5) fun _ _ h => h)
  · exact ((HO7.out.kx HSp.out.1 (by decide) fun _ _ h => h).low (Nat.le_trans s0 s6) fun _ _ h => h)
namespace Ow
theorem blk_put {w : World} {b : Nat} {c : Array Value} {t : TypeId} {f : Nat × Nat} (h : w.heap[b]? = some (.cells c t f)) (k : Nat) (u : Value) : (w.setCell ⟨b, k, none⟩ u).heap[b]? = some (.cells (c.setIfInBounds k u) t f) := by
 have hlt := lt_of_blk h; have h' : w.heap[b] = .cells c t f := by simpa [Array.getElem?_eq_getElem hlt] using h
 show (w.heap.modify b _)[b]? = _; rw [Array.getElem?_eq_getElem (by simpa using hlt), Array.getElem_modify_self, h']
 rfl
theorem bel_set (w : World) (n k : Nat) (u : Value) : Below n w (w.setCell ⟨n, k, none⟩ u) := (Below.refl n w).setCell (Nat.le_refl n) _
theorem row_at {α : Type} {W : World} {sz : Nat} {P : α -> List Value -> Prop} {a : Option Addr} {n c : Nat} {l : List α} (h : RowX W sz P (.slice a n c) l) {k : Nat} {x : α} (hx : l[k]? = some x) : ∃ b o, a = some ⟨b, o, none⟩ /\ ∃ ys, P x ys /\ ∀ wx, Below W.heap.size W wx -> ∀ (j : Nat) (u : Value), ys[j]? = some u -> wx.cell? ⟨b, o + k * sz + j, none⟩ = some u := by
 obtain ⟨a', c', e, hc, h⟩ := h; injection e with e1 e2 e3; subst e1
 rcases h with rfl | ⟨b, o, rfl, hlt, hr⟩
 · simp at hx
 · obtain ⟨ys, h1, h2⟩ := hr k x hx
   exact ⟨b, o, rfl, ys, h1, fun wx hb j u hj => (hb.cell (by exact hlt)).trans (h2 j u hj)⟩
theorem row_one {α : Type} {P : α -> List Value -> Prop} {w : World} {ys : List Value} {x : α} {t : TypeId} {sz : Nat} (h : P x ys) : RowX (w.alloc (.cells ys.toArray t)) sz P (.slice (some ⟨w.heap.size, 0, none⟩) 1 1) [x] := by
 refine ⟨_, 1, rfl, Nat.le_refl _, .inr ⟨_, _, rfl, by simp, fun k y hk => ?_⟩⟩
 have hb : (w.alloc (.cells ys.toArray t)).heap[w.heap.size]? = some (.cells ys.toArray t (0, 0)) := heap_alloc_new w _; cases k with
 | zero =>
   simp at hk; subst hk; refine ⟨ys, h, fun j u hj => ?_⟩; rw [cell_box hb]
   simpa using hj
 | succ k => simp at hk
theorem sets7 {w : World} {n : Nat} {t : TypeId} {v5 u0 u1 u2 u3 u4 u5 : Value} (h0 : Ty w n t) (h1 : Ty w (n + 1) t) :
 Kx t w (((((((w.setCell ⟨n, 5, none⟩ v5).setCell ⟨n + 1, 0, none⟩ u0).setCell ⟨n + 1, 1, none⟩ u1).setCell ⟨n + 1, 2, none⟩ u2).setCell ⟨n + 1, 3, none⟩ u3).setCell ⟨n + 1, 4, none⟩ u4).setCell ⟨n + 1, 5, none⟩ u5) /\
 Below n w (((((((w.setCell ⟨n, 5, none⟩ v5).setCell ⟨n + 1, 0, none⟩ u0).setCell ⟨n + 1, 1, none⟩ u1).setCell ⟨n + 1, 2, none⟩ u2).setCell ⟨n + 1, 3, none⟩ u3).setCell ⟨n + 1, 4, none⟩ u4).setCell ⟨n + 1, 5, none⟩ u5) := by
 have key : ∀ (g k : Nat) (u : Value) (x : World), n <= g -> Ty x g t -> (Ty x n t /\ Ty x (n + 1) t /\ Kx t w x /\ Below n w x) -> (Ty (x.setCell ⟨g, k, none⟩ u) n t /\ Ty (x.setCell ⟨g, k, none⟩ u) (n + 1) t /\ Kx t w (x.setCell ⟨g, k, none⟩ u) /\ Below n w (x.setCell ⟨g, k, none⟩ u)) := fun g k u x hg ht h => ⟨h.1.set _ _ _, h.2.1.set _ _ _, h.2.2.1.trans (Kx.set ht k u), h.2.2.2.trans ((Below.refl _ _).setCell hg _)⟩; have a0 : Ty w n t /\ Ty w (n + 1) t /\ Kx t w w /\ Below n w w := ⟨h0, h1, Kx.refl _ _, Below.refl _ _⟩; have a3 := key n 5 v5 _ (Nat.le_refl _) a0.1 a0; have a4 := key (n + 1) 0 u0 _ (Nat.le_succ _) a3.2.1 a3; have a5 := key (n + 1) 1 u1 _ (Nat.le_succ _) a4.2.1 a4; have a6 := key (n + 1) 2 u2 _ (Nat.le_succ _) a5.2.1 a5; have a7 := key (n + 1) 3 u3 _ (Nat.le_succ _) a6.2.1 a6; have a8 := key (n + 1) 4 u4 _ (Nat.le_succ _) a7.2.1 a7; have a9 := key (n + 1) 5 u5 _ (Nat.le_succ _) a8.2.1 a8; exact ⟨a9.2.2.1, a9.2.2.2⟩
end Ow
theorem TwinClass_any (m : Pp.XCls) (ys : List Value) (w : World) (h : ClsX w m ys) (hl : Pp.LtC m) :
 Calls Tryz.prog 70 #[.agg ys.toArray] w fun e w' => ∃ ys', e = .returned (.agg ys'.toArray) /\ Ow.ClsO w' w.heap.size m ys' /\ Below w.heap.size w w' := by
 obtain ⟨vp, vc, vk, rfl, p1, i1, k1, z1⟩ := h; obtain ⟨j0, hj, hj0, hj1, hj2⟩ := Ow.info_of Ow.i_str; obtain ⟨k0, hk, hk0, hk1, hk2⟩ := Ow.info_of Ow.i_fld; obtain ⟨t0, ht, ht0, ht1, ht2⟩ := Ow.info_of Ow.i_mth; have HZ := hide z1; have HL := hide hl.1; have HLm := hide hl.2.2.2; have HI := hide (fun w' (hb : Below w.heap.size w w') => p1.on hb fun _ _ h => h); have HK := hide (fun w' (hb : Below w.heap.size w w') => i1.on hb fun _ _ h => h); have HT := hide k1; obtain ⟨pa, pc, rfl, _⟩ := p1.len; obtain ⟨ia, ic, rfl, _⟩ := i1.len; obtain ⟨ka, kc, rfl, _⟩ := k1.len; clear p1 i1 k1 z1 hl; simp only [clsXL, List.toArray]; go_enter Tryz.func70, Tryz.ntmps70; go_wp2_with fail; have hx0 := Ow.blk_alloc2a w (.cells #[.string ⟨m.name.toArray⟩, .bool m.iface, .string ⟨m.super.toArray⟩, .slice pa m.ifaces.length pc, .slice ia m.fields.length ic, .slice ka m.methods.length kc] 42) (.cells #[.string ⟨#[]⟩, .bool false, .string ⟨#[]⟩, .slice none 0 0, .slice none 0 0, .slice none 0 0] 42); have hx1 := Ow.blk_alloc2b w (.cells #[.string ⟨m.name.toArray⟩, .bool m.iface, .string ⟨m.super.toArray⟩, .slice pa m.ifaces.length pc, .slice ia m.fields.length ic, .slice ka m.methods.length kc] 42) (.cells #[.string ⟨#[]⟩, .bool false, .string ⟨#[]⟩, .slice none 0 0, .slice none 0 0, .slice none 0 0] 42); have HB0 := hide (Ow.bel_alloc2 w (.cells #[.string ⟨m.name.toArray⟩, .bool m.iface, .string ⟨m.super.toArray⟩, .slice pa m.ifaces.length pc, .slice ia m.fields.length ic, .slice ka m.methods.length kc] 42) (.cells #[.string ⟨#[]⟩, .bool false, .string ⟨#[]⟩, .slice none 0 0, .slice none 0 0, .slice none 0 0] 42)); have hsz0 : w.heap.size + 1 < ((w.alloc (.cells #[.string ⟨m.name.toArray⟩, .bool m.iface, .string ⟨m.super.toArray⟩, .slice pa m.ifaces.length pc, .slice ia m.fields.length ic, .slice ka m.methods.length kc] 42)).alloc (.cells #[.string ⟨#[]⟩, .bool false, .string ⟨#[]⟩, .slice none 0 0, .slice none 0 0, .slice none 0 0] 42)).heap.size := by simp
 generalize ((w.alloc (.cells #[.string ⟨m.name.toArray⟩, .bool m.iface, .string ⟨m.super.toArray⟩, .slice pa m.ifaces.length pc, .slice ia m.fields.length ic, .slice ka m.methods.length kc] 42)).alloc (.cells #[.string ⟨#[]⟩, .bool false, .string ⟨#[]⟩, .slice none 0 0, .slice none 0 0, .slice none 0 0] 42)) = w0 at *
 have HC : Hid (∀ wx, Below w0.heap.size w0 wx -> wx.heap[w.heap.size]? = some (.cells #[.string ⟨m.name.toArray⟩, .bool m.iface, .string ⟨m.super.toArray⟩, .slice pa m.ifaces.length pc, .slice ia m.fields.length ic, .slice ka m.methods.length kc] 42 (0, 0)) /\ wx.heap[w.heap.size + 1]? = some (.cells #[.string ⟨#[]⟩, .bool false, .string ⟨#[]⟩, .slice none 0 0, .slice none 0 0, .slice none 0 0] 42 (0, 0))) := hide fun wx hb => ⟨(hb.block w.heap.size (by omega)).trans hx0, (hb.block (w.heap.size + 1) hsz0).trans hx1⟩
 have HD : Hid (Below w0.heap.size w0 w0.drew) := hide (Below.drew (Below.refl _ _)); clear hx0 hx1 hsz0; have c3 : w0.cell? ⟨w.heap.size, 3, none⟩ = some (.slice pa m.ifaces.length pc) := cell_box (HC.out w0 (Below.refl _ _)).1 3; have c4 : w0.cell? ⟨w.heap.size, 4, none⟩ = some (.slice ia m.fields.length ic) := cell_box (HC.out w0 (Below.refl _ _)).1 4
 go_region_law (first
  | (refine Ow.step_app rfl (.tmp 7) (.tmp 9) 38 rfl Tryz.underlying38 hj hj0 hj1 hj2 (by decide) Ow.shp_str (by first | rfl | simp [Act.eval, Act.put]) (Ow.OwnX.nil w0.drew w0.drew.heap.size 9 1 StrX) (by first | rfl | simp [Act.eval, Act.put]) (HI.out w0.drew (HB0.out.trans (HD.out.mono HB0.out.size))) (by have := HL.out.2.2.1; simp; omega) (by decide) (Nat.le_refl _) ?_
     intro v6 w6 ho6 hg6; have HO6 := hide ho6; have H6 := hide (Ow.bel_grown (Ow.OwnX.nil w0.drew w0.drew.heap.size 9 1 StrX) (Nat.le_refl _) hg6); have HB6 := hide (HD.out.trans (H6.out.mono HD.out.size)); obtain ⟨a6, n6, rfl⟩ := ho6.shape; have c64 : w6.cell? ⟨w.heap.size, 4, none⟩ = some (.slice ia m.fields.length ic) := cell_box (HC.out w6 HB6.out).1 4
     clear ho6 hg6)
  | (refine Ow.step_app rfl (.tmp 11) (.tmp 13) 39 rfl Tryz.underlying39 hk hk0 hk1 hk2 (by decide) Ow.shp_fld (by first | rfl | simp [Act.eval, Act.put]) (Ow.OwnX.nil w6 w6.heap.size 52 4 FldX) (by first | rfl | simp [Act.eval, Act.put]) (HK.out w6 (HB0.out.trans (HB6.out.mono HB0.out.size))) (by have := HL.out.1; simp; omega) (by decide) (Nat.le_refl _) ?_
     intro v7 w7 ho7 hg7; have HO7 := hide ho7; have H7 := hide (Ow.bel_grown (Ow.OwnX.nil w6 w6.heap.size 52 4 FldX) (Nat.le_refl _) hg7); have HB7 := hide (HB6.out.trans (H7.out.mono HB6.out.size)); obtain ⟨a7, n7, rfl⟩ := ho7.shape; have d3 : w7.cell? ⟨w.heap.size, 3, none⟩ = some (.slice pa m.ifaces.length pc) := cell_box (HC.out w7 HB7.out).1 3; have d4 : w7.cell? ⟨w.heap.size, 4, none⟩ = some (.slice ia m.fields.length ic) := cell_box (HC.out w7 HB7.out).1 4; have f3 := Ow.fz_blk (HC.out w7 HB7.out).1 3; have f4 := Ow.fz_blk (HC.out w7 HB7.out).1 4
     clear ho7 hg7))
 all_goals
  have hE0 : w7.heap[w.heap.size]? = some (.cells #[.string ⟨m.name.toArray⟩, .bool m.iface, .string ⟨m.super.toArray⟩, .slice pa m.ifaces.length pc, .slice ia m.fields.length ic, .slice ka m.methods.length kc] 42 (0, 0)) := (HC.out w7 HB7.out).1; have hE1 := (HC.out w7 HB7.out).2; have hF0 : ((w7.setCell ⟨w.heap.size, 3, none⟩ (.slice a6 m.ifaces.length n6)).setCell ⟨w.heap.size, 4, none⟩ (.slice a7 m.fields.length n7)).heap[w.heap.size]? = some (.cells #[.string ⟨m.name.toArray⟩, .bool m.iface, .string ⟨m.super.toArray⟩, .slice a6 m.ifaces.length n6, .slice a7 m.fields.length n7, .slice ka m.methods.length kc] 42 (0, 0)) := Ow.blk_put (Ow.blk_put hE0 3 _) 4 _
  have hF1 : ((w7.setCell ⟨w.heap.size, 3, none⟩ (.slice a6 m.ifaces.length n6)).setCell ⟨w.heap.size, 4, none⟩ (.slice a7 m.fields.length n7)).heap[w.heap.size + 1]? = some (.cells #[.string ⟨#[]⟩, .bool false, .string ⟨#[]⟩, .slice none 0 0, .slice none 0 0, .slice none 0 0] 42 (0, 0)) := by
   rw [Below.heap_setCell _ _ _ _ (by simp), Below.heap_setCell _ _ _ _ (by simp)]; exact hE1
  have hTy : Ow.Ty w7 w.heap.size 42 := ⟨_, _, hE0⟩; have hX := (Ow.Kx.set hTy 3 (.slice a6 m.ifaces.length n6)).trans (Ow.Kx.set (hTy.set w.heap.size 3 (.slice a6 m.ifaces.length n6)) 4 (.slice a7 m.fields.length n7)); have hB8 : Below w.heap.size w7 ((w7.setCell ⟨w.heap.size, 3, none⟩ (.slice a6 m.ifaces.length n6)).setCell ⟨w.heap.size, 4, none⟩ (.slice a7 m.fields.length n7)) := (Ow.bel_set w7 w.heap.size 3 _).trans (Ow.bel_set _ w.heap.size 4 _); have hO6 := ((HO6.out.on H7.out fun _ _ h => h).kx hX (by decide) fun _ _ h => h).low (base' := w.heap.size) (Nat.le_trans HB0.out.size HD.out.size) fun _ _ h => h
  have hO7 := (HO7.out.kx hX (by decide) fun _ _ h => h).low (base' := w.heap.size) (Nat.le_trans HB0.out.size HB6.out.size) fun _ _ h => h
  have hB9 := (HB0.out.trans (HB7.out.mono HB0.out.size)).trans hB8; clear hE0 hE1 hX hTy hB8 c3 d3 d4 f3 f4 HO6 HO7 H6 H7 HB6 HB7 HC HD HB0 HI HK hj hj0 hj1 hj2 hk hk0 hk1 hk2; generalize ((w7.setCell ⟨w.heap.size, 3, none⟩ (.slice a6 m.ifaces.length n6)).setCell ⟨w.heap.size, 4, none⟩ (.slice a7 m.fields.length n7)) = w8 at *
  have HO6 := hide hO6; have HO7 := hide hO7; have HB9 := hide hB9; have HF0 := hide hF0; have HF1 := hide hF1; have hs1 : w.heap.size + 1 < w8.heap.size := Ow.lt_of_blk hF1; have c5 : w8.cell? ⟨w.heap.size, 5, none⟩ = some (.slice ka m.methods.length kc) := cell_box hF0 5; clear hO6 hO7 hB9 hF0 hF1; obtain ⟨len, hlen⟩ : ∃ n, n = m.methods.length := ⟨_, rfl⟩; have HN := hide hlen; have hl14 : len <= 14 := by rw [hlen]; exact HL.out.2.1
  rw [<- hlen] at c5 HT; clear hlen; go_wp2_with fail
  go_loopw [5, 6] (fun l i wr => ∃ k : Nat, k <= len /\ i = .int .i64 k /\ Below w8.heap.size w8 wr /\ Hid (Ow.OwnX wr w8.heap.size 57 9 (Ow.MthO wr w8.heap.size) l (m.methods.take k))) (fun l i _ => len - (intOf i).toNat)
  case atStart => exact ⟨0, Nat.zero_le _, rfl, Below.refl _ _, hide (Ow.OwnX.nil _ _ _ _ _)⟩
  case round =>
   obtain ⟨k, hk, rfl, hbel, HO⟩ := hrel; have e5 := (hbel.cell (p := ⟨w.heap.size, 5, none⟩) (by show w.heap.size < _; omega)).trans c5
   by_cases hlt : k < len
   · obtain ⟨x, hx⟩ : ∃ x, m.methods[k]? = some x := ⟨m.methods[k]'(by rw [<- HN.out]; exact hlt), List.getElem?_eq_getElem _⟩
     obtain ⟨g1, o1, rfl, ys1, w1', hc1⟩ := Ow.row_at HT.out hx; have HWr := hide (HB9.out.trans (hbel.mono HB9.out.size)); have HM := hide (fun wx (hb : Below wr.heap.size wr wx) => TwinMethod_any x ys1 wx (w1'.on (HWr.out.trans (hb.mono HWr.out.size))) (HLm.out x (List.mem_of_getElem? hx))); have HCx := hide (hc1 wr HWr.out); have HTk : Hid (m.methods.take (k + 1) = m.methods.take k ++ [x]) := hide (by rw [List.take_add_one, hx]; rfl)
     have HLn : Hid ((m.methods.take k).length = k) := hide (by rw [List.length_take, <- HN.out]; omega)
     obtain ⟨vp1, vc1, vk1, rfl, x1, x2, x3, _⟩ := w1'; obtain ⟨va1, vd1, rfl, _⟩ := x1.len; obtain ⟨va2, vd2, rfl, _⟩ := x2.len; obtain ⟨va3, vd3, rfl, _⟩ := x3.len; have r0 := HCx.out 0 _ rfl; have r1 := HCx.out 1 _ rfl; have r2 := HCx.out 2 _ rfl; have r3 := HCx.out 3 _ rfl; have r4 := HCx.out 4 _ rfl; have r5 := HCx.out 5 _ rfl; have r6 := HCx.out 6 _ rfl; have r7 := HCx.out 7 _ rfl; have r8 := HCx.out 8 _ rfl; rw [Nat.add_zero] at r0; generalize List.take k m.methods = acc at *
     obtain ⟨la, lc, rfl⟩ := HO.out.shape; have HBl := hide hbel; have hlt' : (k : Int) < (len : Int) := by omega
     have hDr : Hid (Below wr.heap.size wr wr.drew) := hide (Below.drew (Below.refl _ _)); clear hc1 hx x1 x2 x3 hbel HCx; simp only [mthXL] at HM; go_wp2_with fail; refine (HM.out _ (Below.refl _ _)).mono ?_; rintro e w9 ⟨ys', rfl, ho9, hb9⟩; obtain ⟨wp, wc, wk, rfl, q1, q2, q3, q4⟩ := ho9; have hMO : Ow.MthO w9 wr.heap.size x (mthXL x wp wc wk) := ⟨wp, wc, wk, rfl, q1, q2, q3, q4⟩; have hA : Below wr.heap.size wr (w9.alloc (.cells (mthXL x wp wc wk).toArray 57)) := hb9.trans (((Below.refl _ _).alloc (Nat.le_refl _) _).mono hb9.size); have HR1 : Hid (RowX (w9.alloc (.cells (mthXL x wp wc wk).toArray 57)) 9 (Ow.MthO (w9.alloc (.cells (mthXL x wp wc wk).toArray 57)) w8.heap.size) (.slice (some ⟨w9.heap.size, 0, none⟩) 1 1) [x]) := hide (Ow.row_one (hMO.on ((Below.refl _ _).alloc (Nat.le_refl _) _) HBl.out.size)); have HO1 : Hid (Ow.OwnX (w9.alloc (.cells (mthXL x wp wc wk).toArray 57)) w8.heap.size 57 9 (Ow.MthO (w9.alloc (.cells (mthXL x wp wc wk).toArray 57)) w8.heap.size) (.slice la acc.length lc) acc) := hide (HO.out.on hA fun _ _ h => h.on hA (Nat.le_refl _)); have HS1 : Hid (w8.heap.size <= (w9.alloc (.cells (mthXL x wp wc wk).toArray 57)).heap.size) := hide (Nat.le_trans HBl.out.size hA.size); have HA := hide hA; obtain ⟨ua1, ud1, rfl⟩ := q1.shape; obtain ⟨ua2, ud2, rfl⟩ := q2.shape; obtain ⟨ua3, ud3, rfl⟩ := q3.shape; clear hMO q1 q2 q3 q4 hb9 hA HM r0 r1 r2 r3 r4 r5 r6 r7 r8 e5 c5; simp only [mthXL] at HR1 HO1 HS1 HA ⊢
     go_wp2_with (at_builtin; refine Ow.wpList_app rfl (.tmp 24) (.tmp 31) 40 rfl Tryz.underlying40 ht ht0 ht1 ht2 (by decide) Ow.shp_mth rfl HO1.out rfl HR1.out ?c1 (by decide) HS1.out ?_)
     case c1 => have := HLn.out; simp; omega
     · intro v' w10 hown hgrow
       have hkx := Ow.kx_grown HO1.out hgrow; have hb10 := Ow.bel_grown HO1.out HS1.out hgrow
       have HO10 : Hid (Ow.OwnX w10 w8.heap.size 57 9 (Ow.MthO w10 w8.heap.size) v' (m.methods.take (k + 1))) := hide (by
        rw [HTk.out]
        exact hown.low (Nat.le_refl _) fun _ _ h => h.kx hkx (by decide) (by decide) (by decide))
       have HB10 := hide (HBl.out.trans ((HA.out.mono HBl.out.size).trans hb10)); clear hown hgrow hkx hb10 HO1 HR1 HA HS1 HTk; go_wp2_with fail
       go_roundw
       case rel => exact ⟨k + 1, by omega, by go_num, HB10.out, HO10⟩
       case measure => simp [intOf]; omega
   · obtain ⟨la, lc, rfl⟩ := HO.out.shape
     have HOe : Hid (Ow.OwnX wr w8.heap.size 57 9 (Ow.MthO wr w8.heap.size) (.slice la (List.take k m.methods).length lc) m.methods) := hide (by
      have := HO.out; rw [List.take_of_length_le (l := m.methods) (i := k) (by rw [<- HN.out]; omega)] at this ⊢
      exact this)
     generalize (List.take k m.methods).length = nl at *
     have hG0 := (hbel.block w.heap.size (by omega)).trans HF0.out
     have hG1 := (hbel.block (w.heap.size + 1) hs1).trans HF1.out; have g0 : wr.cell? ⟨w.heap.size, 0, none⟩ = some (.string ⟨m.name.toArray⟩) := cell_box hG0 0; have g1 : wr.cell? ⟨w.heap.size, 1, none⟩ = some (.bool m.iface) := cell_box hG0 1; have g2 : wr.cell? ⟨w.heap.size, 2, none⟩ = some (.string ⟨m.super.toArray⟩) := cell_box hG0 2; have g3 : wr.cell? ⟨w.heap.size, 3, none⟩ = some (.slice a6 m.ifaces.length n6) := cell_box hG0 3; have g4 : wr.cell? ⟨w.heap.size, 4, none⟩ = some (.slice a7 m.fields.length n7) := cell_box hG0 4; have p5 := Ow.fz_blk hG0 5; have u0 : wr.cell? ⟨w.heap.size + 1, 0, none⟩ = some (.string ⟨#[]⟩) := cell_box hG1 0; have u1 : wr.cell? ⟨w.heap.size + 1, 1, none⟩ = some (.bool false) := cell_box hG1 1; have u2 : wr.cell? ⟨w.heap.size + 1, 2, none⟩ = some (.string ⟨#[]⟩) := cell_box hG1 2; have u3 : wr.cell? ⟨w.heap.size + 1, 3, none⟩ = some (.slice none 0 0) := cell_box hG1 3; have u4 : wr.cell? ⟨w.heap.size + 1, 4, none⟩ = some (.slice none 0 0) := cell_box hG1 4; have u5 : wr.cell? ⟨w.heap.size + 1, 5, none⟩ = some (.slice none 0 0) := cell_box hG1 5; have q0 := Ow.fz_blk hG1 0; have q1 := Ow.fz_blk hG1 1; have q2 := Ow.fz_blk hG1 2; have q3 := Ow.fz_blk hG1 3; have q4 := Ow.fz_blk hG1 4; have q5 := Ow.fz_blk hG1 5; have HSp := hide (Ow.sets7 (v5 := .slice la nl lc) (u0 := .string ⟨m.name.toArray⟩) (u1 := .bool m.iface) (u2 := .string ⟨m.super.toArray⟩) (u3 := .slice a6 m.ifaces.length n6) (u4 := .slice a7 m.fields.length n7) (u5 := .slice la nl lc) ⟨_, _, hG0⟩ ⟨_, _, hG1⟩); have HBl := hide hbel; have hnl : ¬ ((k : Int) < (len : Int)) := by omega
     clear hG0 hG1 HO hbel c5 ht ht0 ht1 ht2; go_wp2_with fail; refine bodyPost_ret (v := .agg (clsXL m (.slice a6 m.ifaces.length n6) (.slice a7 m.fields.length n7) (.slice la nl lc)).toArray) (by simp [results, Tryz.results70, go_sem, clsXL, *]) rfl ?_
     refine ⟨_, rfl, ⟨_, _, _, rfl, ?_, ?_, ?_, HZ.out⟩, (HB9.out.trans (HBl.out.mono HB9.out.size)).trans HSp.out.2⟩
     · exact (HO6.out.on HBl.out fun _ _ h => h).kx HSp.out.1 (by decide) fun _ _ h => h
     · exact (HO7.out.on HBl.out fun _ _ h => h).kx HSp.out.1 (by decide) fun _ _ h => h
     · exact (HOe.out.kx HSp.out.1 (by decide) fun _ _ h => (h.kx HSp.out.1 (by decide) (by decide) (by decide)).on (Below.refl _ _) HB9.out.size).low HB9.out.size fun _ _ h => h
end Go.Proofs.YtbbbnciejmdpfaaGreatDoor

/- What the laws of this seat lean on: 1 texts. -/
import Derived.Test.YtbbbnciejmdpfabGreatDoorPkAb
import Derived.Maps.AppendAt
import Derived.WideShapes
import Derived.Deep.RegionWith
import Derived.Deep.RegionLaw
set_option maxRecDepth 100000
set_option maxHeartbeats 64000000
set_option linter.unusedVariables false
set_option linter.unusedSimpArgs false
namespace Go.Proofs.YtbbbnciejmdpfabGreatDoor
open Go.RowKit
namespace Ow
theorem lt_of_blk {w : World} {k : Nat} {o : Obj} (h : w.heap[k]? = some o) : k < w.heap.size := by
 rcases Nat.lt_or_ge k w.heap.size with h1 | h1
 · exact h1
 · rw [Array.getElem?_eq_none h1] at h; cases h
theorem own_shape {w : World} {base e size : Nat} {v : Value} {n : Nat} {xs : List Value} (h : w.ownsRow base e size v n xs) : ∃ a cap, v = .slice a n cap := by
 rcases h.2 with ⟨rfl, rfl⟩ | ⟨g, cap, cur, rfl, _⟩
 · exact ⟨none, 0, rfl⟩
 · exact ⟨_, cap, rfl⟩
theorem own_at {w : World} {base e size : Nat} {v : Value} {n : Nat} {xs : List Value} (h : w.ownsRow base e size v n xs) (k : Nat) (hk : v.ownBlock = some k) : ∃ c, w.heap[k]? = some (.cells c e (0, 0)) := by
 rcases h.2 with ⟨rfl, _⟩ | ⟨g, cap, cur, rfl, hb, hg, r⟩
 · cases hk
 · cases hk; exact ⟨cur, hg⟩
section
variable {α : Type} {P P' : α -> List Value -> Prop} {sz : Nat}
def Flat (P : α -> List Value -> Prop) : List α -> List Value -> Prop
 | [], ys => ys = []
 | x :: l, ys => ∃ a b, ys = a ++ b /\ P x a /\ Flat P l b
def Shp (P : α -> List Value -> Prop) (sz : Nat) : Prop := ∀ x ys, P x ys -> ys.length = sz /\ ∀ u ∈ ys, u.oneCell' = true
theorem Flat.app : ∀ {l l' : List α} {ys ys' : List Value}, Flat P l ys -> Flat P l' ys' -> Flat P (l ++ l') (ys ++ ys')
 | [], _, _, _, h, h' => by cases h; exact h'
 | x :: l, _, _, _, ⟨a, b, e, hx, hl⟩, h' => ⟨a, b ++ _, by rw [e, List.append_assoc], hx, hl.app h'⟩
theorem Flat.one {x : α} {ys : List Value} (h : P x ys) : Flat P [x] ys := ⟨ys, [], by simp, h, rfl⟩
theorem Flat.mono (hp : ∀ x ys, P x ys -> P' x ys) : ∀ {l : List α} {ys : List Value}, Flat P l ys -> Flat P' l ys
 | [], _, h => h
 | x :: l, _, ⟨a, b, e, hx, hl⟩ => ⟨a, b, e, hp _ _ hx, hl.mono hp⟩
theorem Flat.len (hs : Shp P sz) : ∀ {l : List α} {ys : List Value}, Flat P l ys -> ys.length = l.length * sz
 | [], _, h => by cases h; simp
 | x :: l, _, ⟨a, b, e, hx, hl⟩ => by rw [e, List.length_append, (hs _ _ hx).1, hl.len hs, List.length_cons, Nat.succ_mul, Nat.add_comm]
theorem Flat.ones (hs : Shp P sz) : ∀ {l : List α} {ys : List Value}, Flat P l ys -> ∀ u ∈ ys, u.oneCell' = true
 | [], _, h => by cases h; intro u hu; cases hu
 | x :: l, _, ⟨a, b, e, hx, hl⟩ => by
   intro u hu; rw [e, List.mem_append] at hu
   rcases hu with hu | hu
   · exact (hs _ _ hx).2 u hu
   · exact hl.ones hs u hu
theorem Flat.at (hs : Shp P sz) : ∀ {l : List α} {ys : List Value}, Flat P l ys -> ∀ (k : Nat) (x : α), l[k]? = some x -> ∃ zs, P x zs /\ ∀ (j : Nat) (u : Value), zs[j]? = some u -> ys[k * sz + j]? = some u
 | [], _, _ => by intro k x h; simp at h
 | y :: l, _, ⟨a, b, e, hx, hl⟩ => by
   intro k x h; have ha := (hs _ _ hx).1; cases k with
   | zero =>
     simp at h; subst h; refine ⟨a, hx, fun j u hj => ?_⟩
     have hjl : j < a.length := by
      rcases Nat.lt_or_ge j a.length with h | h
      · exact h
      · rw [List.getElem?_eq_none h] at hj; cases hj
     rw [e, Nat.zero_mul, Nat.zero_add, List.getElem?_append_left hjl]; exact hj
   | succ k =>
     simp at h; obtain ⟨zs, h1, h2⟩ := hl.at hs k x h; refine ⟨zs, h1, fun j u hj => ?_⟩; rw [e, List.getElem?_append_right (by rw [ha, Nat.succ_mul]; omega), ha]
     rw [show (k + 1) * sz + j - sz = k * sz + j from by rw [Nat.succ_mul]; omega]
     exact h2 j u hj
theorem flat_of {w : World} {b : Nat} (hs : Shp P sz) : ∀ (l : List α) (o : Nat), (∀ (k : Nat) (x : α), l[k]? = some x -> ∃ ys, P x ys /\ ∀ (j : Nat) (u : Value), ys[j]? = some u -> w.cell? ⟨b, o + k * sz + j, none⟩ = some u) ->
 ∃ news, Flat P l news /\ ∀ (j : Nat) (u : Value), news[j]? = some u -> w.cell? ⟨b, o + j, none⟩ = some u
 | [], o, h => ⟨[], rfl, by intro j u hj; simp at hj⟩
 | x :: l, o, h => by
   obtain ⟨a, ha, hc⟩ := h 0 x rfl
   obtain ⟨news, hn, hcn⟩ := flat_of hs l (o + sz) (fun k y hk => by
    obtain ⟨ys, h1, h2⟩ := h (k + 1) y (by simpa using hk)
    refine ⟨ys, h1, fun j u hj => ?_⟩; have := h2 j u hj; rw [show o + (k + 1) * sz + j = o + sz + k * sz + j from by rw [Nat.succ_mul]; omega] at this
    exact this)
   refine ⟨a ++ news, ⟨a, news, rfl, ha, hn⟩, fun j u hj => ?_⟩; have hl := (hs _ _ ha).1
   rcases Nat.lt_or_ge j a.length with hj1 | hj1
   · rw [List.getElem?_append_left hj1] at hj
     have := hc j u hj; rw [Nat.zero_mul, Nat.add_zero] at this; exact this
   · rw [List.getElem?_append_right hj1] at hj
     have := hcn _ u hj; rw [show o + sz + (j - a.length) = o + j from by omega] at this
     exact this
end
def OwnX {α : Type} (w : World) (base e sz : Nat) (P : α -> List Value -> Prop) (v : Value) (l : List α) : Prop :=
 ∃ news, Flat P l news /\ w.ownsRow base e sz v l.length news
structure Kx (e : TypeId) (w w' : World) : Prop where
 size : w.heap.size <= w'.heap.size
 blk : ∀ (k : Nat) (c : Array Value) (t : TypeId) (f : Nat × Nat), w.heap[k]? = some (.cells c t f) -> t ≠ e -> w'.heap[k]? = some (.cells c t f)
section
variable {α : Type} {P P' : α -> List Value -> Prop} {sz base e : Nat} {w w' : World} {v : Value} {l : List α}
theorem OwnX.nil (w : World) (base e sz : Nat) (P : α -> List Value -> Prop) : OwnX w base e sz P (.slice none 0 0) ([] : List α) := ⟨[], rfl, World.ownsRow_nil _ _ _ _⟩
theorem OwnX.keep (h : OwnX w base e sz P v l) (hp : ∀ x ys, P x ys -> P' x ys) (hk : ∀ (k : Nat) (c : Array Value), w.heap[k]? = some (Obj.cells c e (0, 0)) -> w'.heap[k]? = some (Obj.cells c e (0, 0))) : OwnX w' base e sz P' v l := by
 obtain ⟨news, hf, h1, h2⟩ := h; refine ⟨news, hf.mono hp, h1, ?_⟩
 rcases h2 with h2 | ⟨g, cap, cur, rfl, hb, hg, r⟩
 · exact .inl h2
 · exact .inr ⟨g, cap, cur, rfl, hb, hk g _ hg, r⟩
theorem OwnX.on (h : OwnX w base e sz P v l) (hb : Below w.heap.size w w') (hp : ∀ x ys, P x ys -> P' x ys) : OwnX w' base e sz P' v l :=
 h.keep hp fun k c hk => (hb.block k (lt_of_blk hk)).trans hk
theorem OwnX.kx {t : TypeId} (h : OwnX w base e sz P v l) (hk : Kx t w w') (ht : e ≠ t) (hp : ∀ x ys, P x ys -> P' x ys) : OwnX w' base e sz P' v l :=
 h.keep hp fun k c h => hk.blk k c e _ h ht
theorem OwnX.low {base' : Nat} (h : OwnX w base e sz P v l) (hb : base' <= base) (hp : ∀ x ys, P x ys -> P' x ys) : OwnX w base' e sz P' v l := by
 obtain ⟨news, hf, h1, h2⟩ := h; refine ⟨news, hf.mono hp, h1, ?_⟩
 rcases h2 with h2 | ⟨g, cap, cur, rfl, hg, r⟩
 · exact .inl h2
 · exact .inr ⟨g, cap, cur, rfl, Nat.le_trans hb hg, r⟩
theorem OwnX.shape (h : OwnX w base e sz P v l) : ∃ a c, v = .slice a l.length c := by
 obtain ⟨_, _, h⟩ := h; exact own_shape h
theorem OwnX.row (h : OwnX w base e sz P v l) (hs : Shp P sz) (hp : ∀ x ys, P x ys -> P' x ys) : RowX w sz P' v l := by
 obtain ⟨news, hf, h1, h2⟩ := h
 rcases h2 with ⟨rfl, h0⟩ | ⟨g, cap, cur, rfl, hb, hg, hc, hm, hz, ht⟩
 · have : l = [] := List.length_eq_zero_iff.1 h0
   subst this; exact ⟨none, 0, rfl, Nat.le_refl _, .inl rfl⟩
 · refine ⟨_, cap, rfl, hc, .inr ⟨g, 0, rfl, lt_of_blk hg, fun k x hx => ?_⟩⟩
   obtain ⟨zs, h3, h4⟩ := hf.at hs k x hx; refine ⟨zs, hp _ _ h3, fun j u hj => ?_⟩; have h5 := h4 j u hj; rw [Nat.zero_add, cell_box hg]
   have hlt : k * sz + j < news.length := by
    rcases Nat.lt_or_ge (k * sz + j) news.length with h | h
    · exact h
    · rw [List.getElem?_eq_none h] at h5; cases h5
   rw [<- ht, List.getElem?_take, if_pos (by rw [<- h1]; exact hlt)] at h5
   simpa using h5
theorem Kx.refl (e : TypeId) (w : World) : Kx e w w := ⟨Nat.le_refl _, fun _ _ _ _ h _ => h⟩
theorem Kx.trans {a b c : World} (h : Kx e a b) (k : Kx e b c) : Kx e a c := ⟨Nat.le_trans h.size k.size, fun i x t f hx h1 => k.blk i x t f (h.blk i x t f hx h1) h1⟩
theorem Kx.below (h : Below w.heap.size w w') : Kx e w w' := ⟨h.size, fun k c t f hk _ => (h.block k (lt_of_blk hk)).trans hk⟩
theorem kx_grown (h : OwnX w base e sz P v l) (hg : w.grownBy w' v.ownBlock) : Kx e w w' := by
 obtain ⟨news, _, h⟩ := h; refine ⟨hg.size, fun k c t f hk ht => (hg.block k (lt_of_blk hk) fun h2 => ?_).trans hk⟩; obtain ⟨c', hc'⟩ := own_at h k h2.symm; rw [hc'] at hk; simp at hk; exact ht hk.2.1.symm
theorem bel_grown (h : OwnX w base e sz P v l) (hB : base <= w.heap.size) (hg : w.grownBy w' v.ownBlock) : Below base w w' := by
 obtain ⟨news, _, h⟩ := h; exact Below.grown (Below.refl _ _) hg hB (fun k hk => (h.lt k hk).1)
theorem run_app {Pr : Program} {t ty : TypeId} {i : TypeInfo} {n bytes : Nat} (ht : Pr.underlying t = some (.slice e)) (hi : Pr.info? e = some i) (hz : i.zero.map (fun z => z.cells.size) = some sz) (hsize : i.size = sz) (hby : i.bytes = bytes) (hsz : 0 < sz) (hs : Shp P sz)
 (ho : OwnX w base e sz P v l) {v2 : Value} {l2 : List α} (hr : RowX w sz P v2 l2) (h63 : l.length + l2.length <= 1000000) (hb2 : bytes <= 1000) (hbase : base <= w.heap.size) :
 ∃ v' w', (Builtin.append_ #[t, t] ty #[v, v2]).run Pr w = .ok v' w' /\ OwnX w' base e sz P v' (l ++ l2) /\ w.grownBy w' v.ownBlock := by
 cases hzz : i.zero with
 | none => rw [hzz] at hz; cases hz
 | some z =>
   rw [hzz] at hz; simp at hz; obtain ⟨a, c, rfl, hc, hr⟩ := hr; obtain ⟨news, hf, hown⟩ := ho
   have key : ∀ (ad : Addr) (news2 : List Value), Flat P l2 news2 -> (∀ j u, news2[j]? = some u -> w.cell? (ad.add j) = some u) -> ∃ v' w', (Builtin.append_ #[t, t] ty #[v, .slice (some ad) l2.length c]).run Pr w = .ok v' w' /\ OwnX w' base e sz P v' (l ++ l2) /\ w.grownBy w' v.ownBlock := by
    intro ad news2 hf2 hc2; have hbb : (l.length + l2.length) * bytes <= 1000000 * 1000 := Nat.mul_le_mul h63 hb2; obtain ⟨v', w', h1, h2, h3, _⟩ := run_append_own_at (P := Pr) w base t ty e i z sz bytes ht hi hzz hsize hby hz hsz v l.length news hown ad l2.length c news2 (hf2.len hs) hc2 (hf2.ones hs) (by unfold maxLen; omega) (by omega) hbase
    exact ⟨v', w', h1, ⟨news ++ news2, hf.app hf2, by rw [List.length_append]; exact h2⟩, h3⟩
   rcases hr with rfl | ⟨b, o, rfl, hlt, hx⟩
   · cases a with
     | some ad => exact key ad [] rfl (by intro j u hj; simp at hj)
     | none =>
       refine ⟨v, w, ?_, ⟨news, by simpa using hf, by simpa using hown⟩, ⟨rfl, rfl, rfl, Nat.le_refl _, fun _ _ _ => rfl⟩⟩
       rcases hown.2 with ⟨rfl, _⟩ | ⟨g, cap, cur, rfl, _, _, hnc, _⟩
       · simp [Builtin.append_, run_underlying ht, sizeOf, typeInfo, hi, Builtin.lenOf, Builtin.firstCells, loadCells, loadCellsFrom]
       · simp [Builtin.append_, run_underlying ht, sizeOf, typeInfo, hi, Builtin.lenOf, Builtin.firstCells, loadCells, loadCellsFrom, hnc, storeCells]
   · obtain ⟨news2, hf2, hc2⟩ := flat_of hs l2 o hx
     exact key ⟨b, o, none⟩ news2 hf2 (fun j u hj => by rw [Go.WideShapes.add_plain]; exact hc2 j u hj)
theorem wpList_app {Pr : Program} {ops : Array Oper} {rest : List Oper} {o : Oper} {a : Act} {Q : Exit -> Act -> World -> Prop} (hgd : o.guard = none) (s x : Operand) (t : TypeId)
 (hop : o.op = .call { callee := .builtin .append, args := #[s, x], argTypes := #[t, t] }) {i : TypeInfo} {bytes : Nat}
 (ht : Pr.underlying t = some (.slice e)) (hi : Pr.info? e = some i) (hz : i.zero.map (fun z => z.cells.size) = some sz) (hsize : i.size = sz) (hby : i.bytes = bytes) (hsz : 0 < sz) (hs : Shp P sz)
 (hv : a.eval s = v) (ho : OwnX w base e sz P v l) {v2 : Value} {l2 : List α} (hv2 : a.eval x = v2) (hr : RowX w sz P v2 l2) (h63 : l.length + l2.length <= 1000000) (hb2 : bytes <= 1000) (hbase : base <= w.heap.size)
 (h : ∀ v' w', OwnX w' base e sz P v' (l ++ l2) -> w.grownBy w' v.ownBlock -> wpList Pr ops Q rest (a.put o.dst v') w') : wpList Pr ops Q (o :: rest) a w := by
 refine wpList_plain hgd fun K hK => ?_; obtain ⟨v', w', hrun, h1, h2⟩ := run_app (Pr := Pr) (t := t) (ty := o.type) (n := 0) ht hi hz hsize hby hsz hs ho hr h63 hb2 hbase; unfold Oper.wp execOp; simp only [hop, resolve, invoke, builtin, Sem.run_bind, Sem.run_pure, Result.andThen_ok, List.map_toArray, List.map_cons, List.map_nil, hv, hv2, hrun]; exact hK _ _ (h v' w' h1 h2)
theorem step_app {Pr : Program} {ops : Array Oper} {o : Oper} {a : Act} {K : Act -> World -> Prop} {Q : Exit -> Act -> World -> Prop} {E : Prop} (hgd : o.guard = none) (s x : Operand) (t : TypeId)
 (hop : o.op = .call { callee := .builtin .append, args := #[s, x], argTypes := #[t, t] }) {i : TypeInfo} {bytes : Nat}
 (ht : Pr.underlying t = some (.slice e)) (hi : Pr.info? e = some i) (hz : i.zero.map (fun z => z.cells.size) = some sz) (hsize : i.size = sz) (hby : i.bytes = bytes) (hsz : 0 < sz) (hs : Shp P sz)
 (hv : a.eval s = v) (ho : OwnX w base e sz P v l) {v2 : Value} {l2 : List α} (hv2 : a.eval x = v2) (hr : RowX w sz P v2 l2) (h63 : l.length + l2.length <= 1000000) (hb2 : bytes <= 1000) (hbase : base <= w.heap.size)
 (h : ∀ v' w', OwnX w' base e sz P v' (l ++ l2) -> w.grownBy w' v.ownBlock -> K (a.put o.dst v') w') :
 if Region.wanted o (yielded ops a.tmps) = true then Oper.wp Pr o a w K Q else E := by
 have hw : Region.wanted o (yielded ops a.tmps) = true := by simp [Region.wanted, hgd]
 rw [if_pos hw]; obtain ⟨v', w', hrun, h1, h2⟩ := run_app (Pr := Pr) (t := t) (ty := o.type) (n := 0) ht hi hz hsize hby hsz hs ho hr h63 hb2 hbase; unfold Oper.wp execOp; simp only [hop, resolve, invoke, builtin, Sem.run_bind, Sem.run_pure, Result.andThen_ok, List.map_toArray, List.map_cons, List.map_nil, hv, hv2, hrun]; exact h v' w' h1 h2
end
theorem shp_str : Shp StrX 1 := by rintro x ys ⟨rfl, _⟩; exact ⟨rfl, by intro u hu; simp [strL] at hu; subst hu; rfl⟩
theorem shp_ty : Shp TyX 2 := by rintro x ys ⟨rfl, _⟩; exact ⟨rfl, by intro u hu; simp [tyL] at hu; rcases hu with rfl | rfl <;> rfl⟩
theorem shp_fld : Shp FldX 4 := by rintro x ys ⟨rfl, _⟩; exact ⟨rfl, by intro u hu; simp [fldL] at hu; rcases hu with rfl | rfl | rfl | rfl <;> rfl⟩
theorem shp_ins : Shp InsX 4 := by rintro x ys ⟨rfl, _⟩; exact ⟨rfl, by intro u hu; simp [insL] at hu; rcases hu with rfl | rfl | rfl | rfl <;> rfl⟩
theorem shp_ctc : Shp CtcX 4 := by rintro x ys ⟨rfl, _⟩; exact ⟨rfl, by intro u hu; simp [ctcL] at hu; rcases hu with rfl | rfl | rfl | rfl <;> rfl⟩
def MthO (w : World) (base : Nat) (m : Pp.XMth) (ys : List Value) : Prop := ∃ vp vc vk, ys = mthXL m vp vc vk /\ OwnX w base 36 2 TyX vp m.params /\ OwnX w base 50 4 InsX vc m.code /\ OwnX w base 52 4 CtcX vk m.catches /\
 m.name.length <= maxLen /\ m.ret.name.length <= maxLen /\ m.params.length <= maxLen /\ m.code.length <= maxLen /\ m.catches.length <= maxLen
def ClsO (w : World) (base : Nat) (c : Pp.XCls) (ys : List Value) : Prop := ∃ vi vf vm, ys = clsXL c vi vf vm /\ OwnX w base 9 1 StrX vi c.ifaces /\ OwnX w base 43 4 FldX vf c.fields /\ OwnX w base 48 9 (MthO w base) vm c.methods /\
 c.name.length <= maxLen /\ c.super.length <= maxLen /\ c.ifaces.length <= maxLen /\ c.fields.length <= maxLen /\ c.methods.length <= maxLen
def ProgO (w : World) (base : Nat) (v : Value) (cs : List Pp.XCls) : Prop := OwnX w base 33 6 (ClsO w base) v cs /\ cs.length <= maxLen
theorem shp_mth {w : World} {base : Nat} : Shp (MthO w base) 9 := by
 rintro x ys ⟨vp, vc, vk, rfl, h1, h2, h3, _⟩; obtain ⟨_, _, rfl⟩ := h1.shape; obtain ⟨_, _, rfl⟩ := h2.shape; obtain ⟨_, _, rfl⟩ := h3.shape; exact ⟨rfl, by intro u hu; simp [mthXL] at hu; rcases hu with rfl | rfl | rfl | rfl | rfl | rfl | rfl | rfl | rfl <;> rfl⟩
theorem shp_cls {w : World} {base : Nat} : Shp (ClsO w base) 6 := by
 rintro x ys ⟨vp, vc, vk, rfl, h1, h2, h3, _⟩; obtain ⟨_, _, rfl⟩ := h1.shape; obtain ⟨_, _, rfl⟩ := h2.shape; obtain ⟨_, _, rfl⟩ := h3.shape; exact ⟨rfl, by intro u hu; simp [clsXL] at hu; rcases hu with rfl | rfl | rfl | rfl | rfl | rfl <;> rfl⟩
theorem MthO.x {w : World} {base : Nat} {m : Pp.XMth} {ys : List Value} (h : MthO w base m ys) : MthX w m ys := by
 obtain ⟨vp, vc, vk, rfl, h1, h2, h3, h4⟩ := h; exact ⟨vp, vc, vk, rfl, h1.row shp_ty fun _ _ h => h, h2.row shp_ins fun _ _ h => h, h3.row shp_ctc fun _ _ h => h, h4⟩
theorem ClsO.x {w : World} {base : Nat} {m : Pp.XCls} {ys : List Value} (h : ClsO w base m ys) : ClsX w m ys := by
 obtain ⟨vp, vc, vk, rfl, h1, h2, h3, h4⟩ := h; exact ⟨vp, vc, vk, rfl, h1.row shp_str fun _ _ h => h, h2.row shp_fld fun _ _ h => h, h3.row shp_mth fun _ _ h => h.x, h4⟩
theorem ProgO.x {w : World} {base : Nat} {v : Value} {cs : List Pp.XCls} (h : ProgO w base v cs) : ProgX w v cs := ⟨h.1.row shp_cls fun _ _ h => h.x, h.2⟩
theorem MthO.on {w w' : World} {base base' : Nat} {m : Pp.XMth} {ys : List Value} (h : MthO w base m ys) (hb : Below w.heap.size w w') (hl : base' <= base) : MthO w' base' m ys := by
 obtain ⟨vp, vc, vk, rfl, h1, h2, h3, h4⟩ := h; exact ⟨vp, vc, vk, rfl, (h1.on hb fun _ _ h => h).low hl fun _ _ h => h, (h2.on hb fun _ _ h => h).low hl fun _ _ h => h, (h3.on hb fun _ _ h => h).low hl fun _ _ h => h, h4⟩
theorem ClsO.on {w w' : World} {base base' : Nat} {m : Pp.XCls} {ys : List Value} (h : ClsO w base m ys) (hb : Below w.heap.size w w') (hl : base' <= base) : ClsO w' base' m ys := by
 obtain ⟨vp, vc, vk, rfl, h1, h2, h3, h4⟩ := h; exact ⟨vp, vc, vk, rfl, (h1.on hb fun _ _ h => h).low hl fun _ _ h => h, (h2.on hb fun _ _ h => h).low hl fun _ _ h => h, (h3.on hb fun _ _ h => h.on hb hl).low hl fun _ _ h => h, h4⟩
theorem ProgO.on {w w' : World} {base base' : Nat} {v : Value} {cs : List Pp.XCls} (h : ProgO w base v cs) (hb : Below w.heap.size w w') (hl : base' <= base) : ProgO w' base' v cs := ⟨(h.1.on hb fun _ _ h => h.on hb hl).low hl fun _ _ h => h, h.2⟩
theorem MthO.kx {t : TypeId} {w w' : World} {base : Nat} {m : Pp.XMth} {ys : List Value} (h : MthO w base m ys) (hk : Kx t w w') (h1 : 36 ≠ t) (h2 : 50 ≠ t) (h3 : 52 ≠ t) : MthO w' base m ys := by
 obtain ⟨vp, vc, vk, rfl, k1, k2, k3, h4⟩ := h; exact ⟨vp, vc, vk, rfl, k1.kx hk h1 fun _ _ h => h, k2.kx hk h2 fun _ _ h => h, k3.kx hk h3 fun _ _ h => h, h4⟩
theorem ClsO.kx {t : TypeId} {w w' : World} {base : Nat} {m : Pp.XCls} {ys : List Value} (h : ClsO w base m ys) (hk : Kx t w w') (h1 : 36 ≠ t) (h2 : 50 ≠ t) (h3 : 52 ≠ t) (h5 : 9 ≠ t) (h6 : 43 ≠ t) (h7 : 48 ≠ t) : ClsO w' base m ys := by
 obtain ⟨vp, vc, vk, rfl, k1, k2, k3, h4⟩ := h; exact ⟨vp, vc, vk, rfl, k1.kx hk h5 fun _ _ h => h, k2.kx hk h6 fun _ _ h => h, k3.kx hk h7 fun _ _ h => h.kx hk h1 h2 h3, h4⟩
end Ow
end Go.Proofs.YtbbbnciejmdpfabGreatDoor

/- What the laws of this seat lean on: 6 texts. -/
import Derived.Test.YtjlappamkfjlkabGreatDoorPkAa
import Derived.Maps.AppendAt
import Derived.WideShapes
import Derived.Deep.RegionWith
import Derived.Deep.RegionLaw
import Derived.LaidEqlPtr
import Derived.Lib.AppendZerosOnto
import Derived.Lib.SliceRun
set_option maxRecDepth 100000
set_option maxHeartbeats 64000000
set_option linter.unusedVariables false
set_option linter.unusedSimpArgs false
namespace Go.Proofs.YtjlappamkfjlkabGreatDoor
open Go.RowKit
namespace Ow
theorem lt_of_blk {w : World} {k : Nat} {o : Obj} (h : w.heap[k]? = some o) : k < w.heap.size := by
 rcases Nat.lt_or_ge k w.heap.size with h1 | h1
 · exact h1
 · rw [Array.getElem?_eq_none h1] at h; cases h
theorem own_shape {w : World} {base e size : Nat} {v : Value} {n : Nat} {xs : List Value} (h : w.ownsRow base e size v n xs) : ∃ a cap, v = .slice a n cap := by
 rcases h.2 with ⟨rfl, rfl⟩ | ⟨g, cap, cur, rfl, _⟩
 · exact ⟨none, 0, rfl⟩
 · exact ⟨_, cap, rfl⟩
theorem own_at {w : World} {base e size : Nat} {v : Value} {n : Nat} {xs : List Value} (h : w.ownsRow base e size v n xs) (k : Nat) (hk : v.ownBlock = some k) : ∃ c, w.heap[k]? = some (.cells c e (0, 0)) := by
 rcases h.2 with ⟨rfl, _⟩ | ⟨g, cap, cur, rfl, hb, hg, r⟩
 · cases hk
 · cases hk; exact ⟨cur, hg⟩
section
variable {α : Type} {P P' : α -> List Value -> Prop} {sz : Nat}
def Flat (P : α -> List Value -> Prop) : List α -> List Value -> Prop
 | [], ys => ys = []
 | x :: l, ys => ∃ a b, ys = a ++ b /\ P x a /\ Flat P l b
def Shp (P : α -> List Value -> Prop) (sz : Nat) : Prop := ∀ x ys, P x ys -> ys.length = sz /\ ∀ u ∈ ys, u.oneCell' = true
theorem Flat.app : ∀ {l l' : List α} {ys ys' : List Value}, Flat P l ys -> Flat P l' ys' -> Flat P (l ++ l') (ys ++ ys')
 | [], _, _, _, h, h' => by cases h; exact h'
 | x :: l, _, _, _, ⟨a, b, e, hx, hl⟩, h' => ⟨a, b ++ _, by rw [e, List.append_assoc], hx, hl.app h'⟩
theorem Flat.one {x : α} {ys : List Value} (h : P x ys) : Flat P [x] ys := ⟨ys, [], by simp, h, rfl⟩
theorem Flat.mono (hp : ∀ x ys, P x ys -> P' x ys) : ∀ {l : List α} {ys : List Value}, Flat P l ys -> Flat P' l ys
 | [], _, h => h
 | x :: l, _, ⟨a, b, e, hx, hl⟩ => ⟨a, b, e, hp _ _ hx, hl.mono hp⟩
theorem Flat.len (hs : Shp P sz) : ∀ {l : List α} {ys : List Value}, Flat P l ys -> ys.length = l.length * sz
 | [], _, h => by cases h; simp
 | x :: l, _, ⟨a, b, e, hx, hl⟩ => by rw [e, List.length_append, (hs _ _ hx).1, hl.len hs, List.length_cons, Nat.succ_mul, Nat.add_comm]
theorem Flat.ones (hs : Shp P sz) : ∀ {l : List α} {ys : List Value}, Flat P l ys -> ∀ u ∈ ys, u.oneCell' = true
 | [], _, h => by cases h; intro u hu; cases hu
 | x :: l, _, ⟨a, b, e, hx, hl⟩ => by
   intro u hu; rw [e, List.mem_append] at hu
   rcases hu with hu | hu
   · exact (hs _ _ hx).2 u hu
   · exact hl.ones hs u hu
theorem Flat.at (hs : Shp P sz) : ∀ {l : List α} {ys : List Value}, Flat P l ys -> ∀ (k : Nat) (x : α), l[k]? = some x -> ∃ zs, P x zs /\ ∀ (j : Nat) (u : Value), zs[j]? = some u -> ys[k * sz + j]? = some u
 | [], _, _ => by intro k x h; simp at h
 | y :: l, _, ⟨a, b, e, hx, hl⟩ => by
   intro k x h; have ha := (hs _ _ hx).1; cases k with
   | zero =>
     simp at h; subst h; refine ⟨a, hx, fun j u hj => ?_⟩
     have hjl : j < a.length := by
      rcases Nat.lt_or_ge j a.length with h | h
      · exact h
      · rw [List.getElem?_eq_none h] at hj; cases hj
     rw [e, Nat.zero_mul, Nat.zero_add, List.getElem?_append_left hjl]; exact hj
   | succ k =>
     simp at h; obtain ⟨zs, h1, h2⟩ := hl.at hs k x h; refine ⟨zs, h1, fun j u hj => ?_⟩; rw [e, List.getElem?_append_right (by rw [ha, Nat.succ_mul]; omega), ha]
     rw [show (k + 1) * sz + j - sz = k * sz + j from by rw [Nat.succ_mul]; omega]
     exact h2 j u hj
theorem flat_of {w : World} {b : Nat} (hs : Shp P sz) : ∀ (l : List α) (o : Nat), (∀ (k : Nat) (x : α), l[k]? = some x -> ∃ ys, P x ys /\ ∀ (j : Nat) (u : Value), ys[j]? = some u -> w.cell? ⟨b, o + k * sz + j, none⟩ = some u) ->
 ∃ news, Flat P l news /\ ∀ (j : Nat) (u : Value), news[j]? = some u -> w.cell? ⟨b, o + j, none⟩ = some u
 | [], o, h => ⟨[], rfl, by intro j u hj; simp at hj⟩
 | x :: l, o, h => by
   obtain ⟨a, ha, hc⟩ := h 0 x rfl
   obtain ⟨news, hn, hcn⟩ := flat_of hs l (o + sz) (fun k y hk => by
    obtain ⟨ys, h1, h2⟩ := h (k + 1) y (by simpa using hk)
    refine ⟨ys, h1, fun j u hj => ?_⟩; have := h2 j u hj; rw [show o + (k + 1) * sz + j = o + sz + k * sz + j from by rw [Nat.succ_mul]; omega] at this
    exact this)
   refine ⟨a ++ news, ⟨a, news, rfl, ha, hn⟩, fun j u hj => ?_⟩; have hl := (hs _ _ ha).1
   rcases Nat.lt_or_ge j a.length with hj1 | hj1
   · rw [List.getElem?_append_left hj1] at hj
     have := hc j u hj; rw [Nat.zero_mul, Nat.add_zero] at this; exact this
   · rw [List.getElem?_append_right hj1] at hj
     have := hcn _ u hj; rw [show o + sz + (j - a.length) = o + j from by omega] at this
     exact this
end
def OwnX {α : Type} (w : World) (base e sz : Nat) (P : α -> List Value -> Prop) (v : Value) (l : List α) : Prop :=
 ∃ news, Flat P l news /\ w.ownsRow base e sz v l.length news
structure Kx (e : TypeId) (w w' : World) : Prop where
 size : w.heap.size <= w'.heap.size
 blk : ∀ (k : Nat) (c : Array Value) (t : TypeId) (f : Nat × Nat), w.heap[k]? = some (.cells c t f) -> t ≠ e -> w'.heap[k]? = some (.cells c t f)
section
variable {α : Type} {P P' : α -> List Value -> Prop} {sz base e : Nat} {w w' : World} {v : Value} {l : List α}
theorem OwnX.nil (w : World) (base e sz : Nat) (P : α -> List Value -> Prop) : OwnX w base e sz P (.slice none 0 0) ([] : List α) := ⟨[], rfl, World.ownsRow_nil _ _ _ _⟩
theorem OwnX.keep (h : OwnX w base e sz P v l) (hp : ∀ x ys, P x ys -> P' x ys) (hk : ∀ (k : Nat) (c : Array Value), w.heap[k]? = some (Obj.cells c e (0, 0)) -> w'.heap[k]? = some (Obj.cells c e (0, 0))) : OwnX w' base e sz P' v l := by
 obtain ⟨news, hf, h1, h2⟩ := h; refine ⟨news, hf.mono hp, h1, ?_⟩
 rcases h2 with h2 | ⟨g, cap, cur, rfl, hb, hg, r⟩
 · exact .inl h2
 · exact .inr ⟨g, cap, cur, rfl, hb, hk g _ hg, r⟩
theorem OwnX.on (h : OwnX w base e sz P v l) (hb : Below w.heap.size w w') (hp : ∀ x ys, P x ys -> P' x ys) : OwnX w' base e sz P' v l :=
 h.keep hp fun k c hk => (hb.block k (lt_of_blk hk)).trans hk
theorem OwnX.kx {t : TypeId} (h : OwnX w base e sz P v l) (hk : Kx t w w') (ht : e ≠ t) (hp : ∀ x ys, P x ys -> P' x ys) : OwnX w' base e sz P' v l :=
 h.keep hp fun k c h => hk.blk k c e _ h ht
theorem OwnX.low {base' : Nat} (h : OwnX w base e sz P v l) (hb : base' <= base) (hp : ∀ x ys, P x ys -> P' x ys) : OwnX w base' e sz P' v l := by
 obtain ⟨news, hf, h1, h2⟩ := h; refine ⟨news, hf.mono hp, h1, ?_⟩
 rcases h2 with h2 | ⟨g, cap, cur, rfl, hg, r⟩
 · exact .inl h2
 · exact .inr ⟨g, cap, cur, rfl, Nat.le_trans hb hg, r⟩
theorem OwnX.shape (h : OwnX w base e sz P v l) : ∃ a c, v = .slice a l.length c := by
 obtain ⟨_, _, h⟩ := h; exact own_shape h
theorem OwnX.row (h : OwnX w base e sz P v l) (hs : Shp P sz) (hp : ∀ x ys, P x ys -> P' x ys) : RowX w sz P' v l := by
 obtain ⟨news, hf, h1, h2⟩ := h
 rcases h2 with ⟨rfl, h0⟩ | ⟨g, cap, cur, rfl, hb, hg, hc, hm, hz, ht⟩
 · have : l = [] := List.length_eq_zero_iff.1 h0
   subst this; exact ⟨none, 0, rfl, Nat.le_refl _, .inl rfl⟩
 · refine ⟨_, cap, rfl, hc, .inr ⟨g, 0, rfl, lt_of_blk hg, fun k x hx => ?_⟩⟩
   obtain ⟨zs, h3, h4⟩ := hf.at hs k x hx; refine ⟨zs, hp _ _ h3, fun j u hj => ?_⟩; have h5 := h4 j u hj; rw [Nat.zero_add, cell_box hg]
   have hlt : k * sz + j < news.length := by
    rcases Nat.lt_or_ge (k * sz + j) news.length with h | h
    · exact h
    · rw [List.getElem?_eq_none h] at h5; cases h5
   rw [<- ht, List.getElem?_take, if_pos (by rw [<- h1]; exact hlt)] at h5
   simpa using h5
theorem Kx.refl (e : TypeId) (w : World) : Kx e w w := ⟨Nat.le_refl _, fun _ _ _ _ h _ => h⟩
theorem Kx.trans {a b c : World} (h : Kx e a b) (k : Kx e b c) : Kx e a c := ⟨Nat.le_trans h.size k.size, fun i x t f hx h1 => k.blk i x t f (h.blk i x t f hx h1) h1⟩
theorem Kx.below (h : Below w.heap.size w w') : Kx e w w' := ⟨h.size, fun k c t f hk _ => (h.block k (lt_of_blk hk)).trans hk⟩
theorem kx_grown (h : OwnX w base e sz P v l) (hg : w.grownBy w' v.ownBlock) : Kx e w w' := by
 obtain ⟨news, _, h⟩ := h; refine ⟨hg.size, fun k c t f hk ht => (hg.block k (lt_of_blk hk) fun h2 => ?_).trans hk⟩; obtain ⟨c', hc'⟩ := own_at h k h2.symm; rw [hc'] at hk; simp at hk; exact ht hk.2.1.symm
theorem bel_grown (h : OwnX w base e sz P v l) (hB : base <= w.heap.size) (hg : w.grownBy w' v.ownBlock) : Below base w w' := by
 obtain ⟨news, _, h⟩ := h; exact Below.grown (Below.refl _ _) hg hB (fun k hk => (h.lt k hk).1)
theorem run_app {Pr : Program} {t ty : TypeId} {i : TypeInfo} {n bytes : Nat} (ht : Pr.underlying t = some (.slice e)) (hi : Pr.info? e = some i) (hz : i.zero.map (fun z => z.cells.size) = some sz) (hsize : i.size = sz) (hby : i.bytes = bytes) (hsz : 0 < sz) (hs : Shp P sz)
 (ho : OwnX w base e sz P v l) {v2 : Value} {l2 : List α} (hr : RowX w sz P v2 l2) (h63 : l.length + l2.length <= 1000000) (hb2 : bytes <= 1000) (hbase : base <= w.heap.size) :
 ∃ v' w', (Builtin.append_ #[t, t] ty #[v, v2]).run Pr w = .ok v' w' /\ OwnX w' base e sz P v' (l ++ l2) /\ w.grownBy w' v.ownBlock := by
 cases hzz : i.zero with
 | none => rw [hzz] at hz; cases hz
 | some z =>
   rw [hzz] at hz; simp at hz; obtain ⟨a, c, rfl, hc, hr⟩ := hr; obtain ⟨news, hf, hown⟩ := ho
   have key : ∀ (ad : Addr) (news2 : List Value), Flat P l2 news2 -> (∀ j u, news2[j]? = some u -> w.cell? (ad.add j) = some u) -> ∃ v' w', (Builtin.append_ #[t, t] ty #[v, .slice (some ad) l2.length c]).run Pr w = .ok v' w' /\ OwnX w' base e sz P v' (l ++ l2) /\ w.grownBy w' v.ownBlock := by
    intro ad news2 hf2 hc2; have hbb : (l.length + l2.length) * bytes <= 1000000 * 1000 := Nat.mul_le_mul h63 hb2; obtain ⟨v', w', h1, h2, h3, _⟩ := run_append_own_at (P := Pr) w base t ty e i z sz bytes ht hi hzz hsize hby hz hsz v l.length news hown ad l2.length c news2 (hf2.len hs) hc2 (hf2.ones hs) (by unfold maxLen; omega) (by omega) hbase
    exact ⟨v', w', h1, ⟨news ++ news2, hf.app hf2, by rw [List.length_append]; exact h2⟩, h3⟩
   rcases hr with rfl | ⟨b, o, rfl, hlt, hx⟩
   · cases a with
     | some ad => exact key ad [] rfl (by intro j u hj; simp at hj)
     | none =>
       refine ⟨v, w, ?_, ⟨news, by simpa using hf, by simpa using hown⟩, ⟨rfl, rfl, rfl, Nat.le_refl _, fun _ _ _ => rfl⟩⟩
       rcases hown.2 with ⟨rfl, _⟩ | ⟨g, cap, cur, rfl, _, _, hnc, _⟩
       · simp [Builtin.append_, run_underlying ht, sizeOf, typeInfo, hi, Builtin.lenOf, Builtin.firstCells, loadCells, loadCellsFrom]
       · simp [Builtin.append_, run_underlying ht, sizeOf, typeInfo, hi, Builtin.lenOf, Builtin.firstCells, loadCells, loadCellsFrom, hnc, storeCells]
   · obtain ⟨news2, hf2, hc2⟩ := flat_of hs l2 o hx
     exact key ⟨b, o, none⟩ news2 hf2 (fun j u hj => by rw [Go.WideShapes.add_plain]; exact hc2 j u hj)
theorem wpList_app {Pr : Program} {ops : Array Oper} {rest : List Oper} {o : Oper} {a : Act} {Q : Exit -> Act -> World -> Prop} (hgd : o.guard = none) (s x : Operand) (t : TypeId)
 (hop : o.op = .call { callee := .builtin .append, args := #[s, x], argTypes := #[t, t] }) {i : TypeInfo} {bytes : Nat}
 (ht : Pr.underlying t = some (.slice e)) (hi : Pr.info? e = some i) (hz : i.zero.map (fun z => z.cells.size) = some sz) (hsize : i.size = sz) (hby : i.bytes = bytes) (hsz : 0 < sz) (hs : Shp P sz)
 (hv : a.eval s = v) (ho : OwnX w base e sz P v l) {v2 : Value} {l2 : List α} (hv2 : a.eval x = v2) (hr : RowX w sz P v2 l2) (h63 : l.length + l2.length <= 1000000) (hb2 : bytes <= 1000) (hbase : base <= w.heap.size)
 (h : ∀ v' w', OwnX w' base e sz P v' (l ++ l2) -> w.grownBy w' v.ownBlock -> wpList Pr ops Q rest (a.put o.dst v') w') : wpList Pr ops Q (o :: rest) a w := by
 refine wpList_plain hgd fun K hK => ?_; obtain ⟨v', w', hrun, h1, h2⟩ := run_app (Pr := Pr) (t := t) (ty := o.type) (n := 0) ht hi hz hsize hby hsz hs ho hr h63 hb2 hbase; unfold Oper.wp execOp; simp only [hop, resolve, invoke, builtin, Sem.run_bind, Sem.run_pure, Result.andThen_ok, List.map_toArray, List.map_cons, List.map_nil, hv, hv2, hrun]; exact hK _ _ (h v' w' h1 h2)
theorem step_app {Pr : Program} {ops : Array Oper} {o : Oper} {a : Act} {K : Act -> World -> Prop} {Q : Exit -> Act -> World -> Prop} {E : Prop} (hgd : o.guard = none) (s x : Operand) (t : TypeId)
 (hop : o.op = .call { callee := .builtin .append, args := #[s, x], argTypes := #[t, t] }) {i : TypeInfo} {bytes : Nat}
 (ht : Pr.underlying t = some (.slice e)) (hi : Pr.info? e = some i) (hz : i.zero.map (fun z => z.cells.size) = some sz) (hsize : i.size = sz) (hby : i.bytes = bytes) (hsz : 0 < sz) (hs : Shp P sz)
 (hv : a.eval s = v) (ho : OwnX w base e sz P v l) {v2 : Value} {l2 : List α} (hv2 : a.eval x = v2) (hr : RowX w sz P v2 l2) (h63 : l.length + l2.length <= 1000000) (hb2 : bytes <= 1000) (hbase : base <= w.heap.size)
 (h : ∀ v' w', OwnX w' base e sz P v' (l ++ l2) -> w.grownBy w' v.ownBlock -> K (a.put o.dst v') w') :
 if Region.wanted o (yielded ops a.tmps) = true then Oper.wp Pr o a w K Q else E := by
 have hw : Region.wanted o (yielded ops a.tmps) = true := by simp [Region.wanted, hgd]
 rw [if_pos hw]; obtain ⟨v', w', hrun, h1, h2⟩ := run_app (Pr := Pr) (t := t) (ty := o.type) (n := 0) ht hi hz hsize hby hsz hs ho hr h63 hb2 hbase; unfold Oper.wp execOp; simp only [hop, resolve, invoke, builtin, Sem.run_bind, Sem.run_pure, Result.andThen_ok, List.map_toArray, List.map_cons, List.map_nil, hv, hv2, hrun]; exact h v' w' h1 h2
end
theorem shp_str : Shp StrX 1 := by rintro x ys ⟨rfl, _⟩; exact ⟨rfl, by intro u hu; simp [strL] at hu; subst hu; rfl⟩
theorem shp_ty : Shp TyX 2 := by rintro x ys ⟨rfl, _⟩; exact ⟨rfl, by intro u hu; simp [tyL] at hu; rcases hu with rfl | rfl <;> rfl⟩
theorem shp_fld : Shp FldX 4 := by rintro x ys ⟨rfl, _⟩; exact ⟨rfl, by intro u hu; simp [fldL] at hu; rcases hu with rfl | rfl | rfl | rfl <;> rfl⟩
theorem shp_ins : Shp InsX 4 := by rintro x ys ⟨rfl, _⟩; exact ⟨rfl, by intro u hu; simp [insL] at hu; rcases hu with rfl | rfl | rfl | rfl <;> rfl⟩
theorem shp_ctc : Shp CtcX 4 := by rintro x ys ⟨rfl, _⟩; exact ⟨rfl, by intro u hu; simp [ctcL] at hu; rcases hu with rfl | rfl | rfl | rfl <;> rfl⟩
def MthO (w : World) (base : Nat) (m : Pp.XMth) (ys : List Value) : Prop := ∃ vp vc vk, ys = mthXL m vp vc vk /\ OwnX w base 23 2 TyX vp m.params /\ OwnX w base 45 4 InsX vc m.code /\ OwnX w base 113 4 CtcX vk m.catches /\
 m.name.length <= maxLen /\ m.ret.name.length <= maxLen /\ m.params.length <= maxLen /\ m.code.length <= maxLen /\ m.catches.length <= maxLen
def ClsO (w : World) (base : Nat) (c : Pp.XCls) (ys : List Value) : Prop := ∃ vi vf vm, ys = clsXL c vi vf vm /\ OwnX w base 9 1 StrX vi c.ifaces /\ OwnX w base 88 4 FldX vf c.fields /\ OwnX w base 29 9 (MthO w base) vm c.methods /\
 c.name.length <= maxLen /\ c.super.length <= maxLen /\ c.ifaces.length <= maxLen /\ c.fields.length <= maxLen /\ c.methods.length <= maxLen
def ProgO (w : World) (base : Nat) (v : Value) (cs : List Pp.XCls) : Prop := OwnX w base 36 6 (ClsO w base) v cs /\ cs.length <= maxLen
theorem shp_mth {w : World} {base : Nat} : Shp (MthO w base) 9 := by
 rintro x ys ⟨vp, vc, vk, rfl, h1, h2, h3, _⟩; obtain ⟨_, _, rfl⟩ := h1.shape; obtain ⟨_, _, rfl⟩ := h2.shape; obtain ⟨_, _, rfl⟩ := h3.shape; exact ⟨rfl, by intro u hu; simp [mthXL] at hu; rcases hu with rfl | rfl | rfl | rfl | rfl | rfl | rfl | rfl | rfl <;> rfl⟩
theorem shp_cls {w : World} {base : Nat} : Shp (ClsO w base) 6 := by
 rintro x ys ⟨vp, vc, vk, rfl, h1, h2, h3, _⟩; obtain ⟨_, _, rfl⟩ := h1.shape; obtain ⟨_, _, rfl⟩ := h2.shape; obtain ⟨_, _, rfl⟩ := h3.shape; exact ⟨rfl, by intro u hu; simp [clsXL] at hu; rcases hu with rfl | rfl | rfl | rfl | rfl | rfl <;> rfl⟩
theorem MthO.x {w : World} {base : Nat} {m : Pp.XMth} {ys : List Value} (h : MthO w base m ys) : MthX w m ys := by
 obtain ⟨vp, vc, vk, rfl, h1, h2, h3, h4⟩ := h; exact ⟨vp, vc, vk, rfl, h1.row shp_ty fun _ _ h => h, h2.row shp_ins fun _ _ h => h, h3.row shp_ctc fun _ _ h => h, h4⟩
theorem ClsO.x {w : World} {base : Nat} {m : Pp.XCls} {ys : List Value} (h : ClsO w base m ys) : ClsX w m ys := by
 obtain ⟨vp, vc, vk, rfl, h1, h2, h3, h4⟩ := h; exact ⟨vp, vc, vk, rfl, h1.row shp_str fun _ _ h => h, h2.row shp_fld fun _ _ h => h, h3.row shp_mth fun _ _ h => h.x, h4⟩
theorem ProgO.x {w : World} {base : Nat} {v : Value} {cs : List Pp.XCls} (h : ProgO w base v cs) : ProgX w v cs := ⟨h.1.row shp_cls fun _ _ h => h.x, h.2⟩
theorem MthO.on {w w' : World} {base base' : Nat} {m : Pp.XMth} {ys : List Value} (h : MthO w base m ys) (hb : Below w.heap.size w w') (hl : base' <= base) : MthO w' base' m ys := by
 obtain ⟨vp, vc, vk, rfl, h1, h2, h3, h4⟩ := h; exact ⟨vp, vc, vk, rfl, (h1.on hb fun _ _ h => h).low hl fun _ _ h => h, (h2.on hb fun _ _ h => h).low hl fun _ _ h => h, (h3.on hb fun _ _ h => h).low hl fun _ _ h => h, h4⟩
theorem ClsO.on {w w' : World} {base base' : Nat} {m : Pp.XCls} {ys : List Value} (h : ClsO w base m ys) (hb : Below w.heap.size w w') (hl : base' <= base) : ClsO w' base' m ys := by
 obtain ⟨vp, vc, vk, rfl, h1, h2, h3, h4⟩ := h; exact ⟨vp, vc, vk, rfl, (h1.on hb fun _ _ h => h).low hl fun _ _ h => h, (h2.on hb fun _ _ h => h).low hl fun _ _ h => h, (h3.on hb fun _ _ h => h.on hb hl).low hl fun _ _ h => h, h4⟩
theorem ProgO.on {w w' : World} {base base' : Nat} {v : Value} {cs : List Pp.XCls} (h : ProgO w base v cs) (hb : Below w.heap.size w w') (hl : base' <= base) : ProgO w' base' v cs := ⟨(h.1.on hb fun _ _ h => h.on hb hl).low hl fun _ _ h => h, h.2⟩
theorem MthO.kx {t : TypeId} {w w' : World} {base : Nat} {m : Pp.XMth} {ys : List Value} (h : MthO w base m ys) (hk : Kx t w w') (h1 : 23 ≠ t) (h2 : 45 ≠ t) (h3 : 113 ≠ t) : MthO w' base m ys := by
 obtain ⟨vp, vc, vk, rfl, k1, k2, k3, h4⟩ := h; exact ⟨vp, vc, vk, rfl, k1.kx hk h1 fun _ _ h => h, k2.kx hk h2 fun _ _ h => h, k3.kx hk h3 fun _ _ h => h, h4⟩
theorem ClsO.kx {t : TypeId} {w w' : World} {base : Nat} {m : Pp.XCls} {ys : List Value} (h : ClsO w base m ys) (hk : Kx t w w') (h1 : 23 ≠ t) (h2 : 45 ≠ t) (h3 : 113 ≠ t) (h5 : 9 ≠ t) (h6 : 88 ≠ t) (h7 : 29 ≠ t) : ClsO w' base m ys := by
 obtain ⟨vp, vc, vk, rfl, k1, k2, k3, h4⟩ := h; exact ⟨vp, vc, vk, rfl, k1.kx hk h5 fun _ _ h => h, k2.kx hk h6 fun _ _ h => h, k3.kx hk h7 fun _ _ h => h.kx hk h1 h2 h3, h4⟩
end Ow
namespace Pp
structure Slt where
 owner : Bs
 name : Bs
 ty : Ty
def ownL (c : XCls) (st : Bool) (fs : List Fld) : List Slt := (fs.filter fun f => f.stat == st).map fun f => ⟨c.name, f.name, f.ty⟩
theorem ownL_snoc (c : XCls) (st : Bool) (fs : List Fld) (f : Fld) : ownL c st (fs ++ [f]) = ownL c st fs ++ (if f.stat = st then [⟨c.name, f.name, f.ty⟩] else []) := by
 unfold ownL; rw [List.filter_append, List.map_append]
 congr 1
 by_cases h : f.stat = st
 · simp [h]
 · simp [h]
theorem ownL_len (c : XCls) (st : Bool) (fs : List Fld) : (ownL c st fs).length <= fs.length := by
 unfold ownL; rw [List.length_map]; exact List.length_filter_le _ _
end Pp
def SltX (s : Pp.Slt) (ys : List Value) : Prop := ys = [.string ⟨s.owner.toArray⟩, .string ⟨s.name.toArray⟩, .int .i64 s.ty.kind, .string ⟨s.ty.name.toArray⟩]
theorem shp_slt : Ow.Shp SltX 4 := by rintro x ys rfl; exact ⟨rfl, by intro u hu; simp at hu; rcases hu with rfl | rfl | rfl | rfl <;> rfl⟩
def PtrX (b : Nat) (ys : List Value) : Prop := ys = [.pointer (some ⟨b, 0, none⟩)]
theorem shp_ptr : Ow.Shp PtrX 1 := by rintro x ys rfl; exact ⟨rfl, by intro u hu; simp at hu; subst hu; rfl⟩
namespace Ow
theorem info_of' {P : Program} {t : TypeId} {s z b : Nat} (h : (P.info? t).map (fun i => (i.zero.map (fun z => z.cells.size), i.size, i.bytes)) = some (some z, s, b)) : ∃ i, P.info? t = some i /\ i.zero.map (fun z => z.cells.size) = some z /\ i.size = s /\ i.bytes = b := by
 cases hi : P.info? t with
 | none => rw [hi] at h; cases h
 | some i => rw [hi] at h; simp only [Option.map_some, Option.some.injEq, Prod.mk.injEq] at h; exact ⟨i, rfl, h.1, h.2.1, h.2.2⟩
theorem row_at' {α : Type} {W : World} {sz : Nat} {P : α -> List Value -> Prop} {a : Option Addr} {n c : Nat} {l : List α} (h : RowX W sz P (.slice a n c) l) {k : Nat} {x : α} (hx : l[k]? = some x) : ∃ b o, a = some ⟨b, o, none⟩ /\ ∃ ys, P x ys /\ ∀ wx, Below W.heap.size W wx -> ∀ (j : Nat) (u : Value), ys[j]? = some u -> wx.cell? ⟨b, o + k * sz + j, none⟩ = some u := by
 obtain ⟨a', c', e, hc, h⟩ := h; injection e with e1 e2 e3; subst e1
 rcases h with rfl | ⟨b, o, rfl, hlt, hr⟩
 · simp at hx
 · obtain ⟨ys, h1, h2⟩ := hr k x hx
   exact ⟨b, o, rfl, ys, h1, fun wx hb j u hj => (hb.cell (by exact hlt)).trans (h2 j u hj)⟩
theorem row_one' {α : Type} {P : α -> List Value -> Prop} {w : World} {ys : List Value} {x : α} {t : TypeId} {sz : Nat} (h : P x ys) : RowX (w.alloc (.cells ys.toArray t)) sz P (.slice (some ⟨w.heap.size, 0, none⟩) 1 1) [x] := by
 refine ⟨_, 1, rfl, Nat.le_refl _, .inr ⟨_, _, rfl, by simp, fun k y hk => ?_⟩⟩
 have hb : (w.alloc (.cells ys.toArray t)).heap[w.heap.size]? = some (.cells ys.toArray t (0, 0)) := heap_alloc_new w _; cases k with
 | zero =>
   simp at hk; subst hk; refine ⟨ys, h, fun j u hj => ?_⟩; rw [cell_box hb]
   simpa using hj
 | succ k => simp at hk
theorem i_slot : (Tryz.prog.info? 66).map (fun i => (i.zero.map (fun z => z.cells.size), i.size, i.bytes)) = some (some 4, 4, 56) := by kernel_rfl
theorem i_tabp : (Tryz.prog.info? 51).map (fun i => (i.zero.map (fun z => z.cells.size), i.size, i.bytes)) = some (some 1, 1, 8) := by kernel_rfl
end Ow
theorem ownSlots_any (c : Pp.XCls) (ys : List Value) (st : Bool) (w : World) (h : ClsX w c ys) (hn : c.fields.length <= 100) :
 Calls Tryz.prog 22 #[.agg ys.toArray, .bool st] w fun e w' => ∃ v, e = .returned v /\ Ow.OwnX w' w.heap.size 66 4 SltX v (Pp.ownL c st c.fields) /\ Below w.heap.size w w' := by
 obtain ⟨vi, vf, vm, rfl, x1, x2, x3, _⟩ := h; have HRf := hide x2; obtain ⟨ia, ic, rfl, _⟩ := x1.len; obtain ⟨fa, fc, rfl, _⟩ := x2.len; obtain ⟨ma, mc, rfl, _⟩ := x3.len; clear x1 x2 x3; obtain ⟨n, hn'⟩ : ∃ q, q = c.fields.length := ⟨_, rfl⟩; have HN := hide hn'; rw [<- hn'] at HRf hn; simp only [clsXL]; rw [<- hn']; clear hn'; obtain ⟨NB, hNB⟩ : ∃ q : ByteArray, q = ⟨c.name.toArray⟩ := ⟨_, rfl⟩; have HNB := hide hNB; rw [<- hNB]; clear hNB; obtain ⟨j0, hj, hj0, hj1, hj2⟩ := Ow.info_of' Ow.i_slot; have HB0 := hide ((Below.refl w.heap.size w).alloc (Nat.le_refl _) (.cells #[.string NB, .bool c.iface, .string ⟨c.super.toArray⟩, .slice ia c.ifaces.length ic, .slice fa n fc, .slice ma c.methods.length mc] 36)); have hx0 := heap_alloc_new w (.cells #[.string NB, .bool c.iface, .string ⟨c.super.toArray⟩, .slice ia c.ifaces.length ic, .slice fa n fc, .slice ma c.methods.length mc] 36); go_enter Tryz.func22, Tryz.ntmps22; go_wp2_with fail; generalize w.alloc (.cells #[.string NB, .bool c.iface, .string ⟨c.super.toArray⟩, .slice ia c.ifaces.length ic, .slice fa n fc, .slice ma c.methods.length mc] 36) = w0 at *
 have HC : Hid (∀ wx, Below w0.heap.size w0 wx -> wx.cell? ⟨w.heap.size, 0, none⟩ = some (.string NB)) := hide fun wx hb => cell_box ((hb.block _ (Ow.lt_of_blk hx0)).trans hx0) 0; clear hx0
 go_loopw [5, 11] (fun l i wr => ∃ (k : Nat) (la : Option Addr) (lc : Nat) (ln : Nat), k <= n /\ i = .int .i64 k /\ l = .slice la ln lc /\ ln = (Pp.ownL c st (c.fields.take k)).length /\ Hid (Below w0.heap.size w0 wr) /\ Hid (Ow.OwnX wr w0.heap.size 66 4 SltX (.slice la ln lc) (Pp.ownL c st (c.fields.take k)))) (fun _ i _ => n - (intOf i).toNat)
 case atStart => exact ⟨0, none, 0, 0, Nat.zero_le _, rfl, rfl, rfl, hide (Below.refl _ _), hide (Ow.OwnX.nil _ _ _ _ _)⟩
 case round =>
  obtain ⟨k, la, lc, ln, hk, rfl, rfl, hln, HBr, HO⟩ := hrel; have HLn := hide hln; have hlk : ln <= 100 := by rw [hln]; have := Pp.ownL_len c st (c.fields.take k); rw [List.length_take] at this; omega
  clear hln; by_cases hlt : k < n
  · obtain ⟨f, hx⟩ : ∃ f, c.fields[k]? = some f := ⟨c.fields[k]'(by rw [<- HN.out]; exact hlt), List.getElem?_eq_getElem _⟩
    obtain ⟨g, o, eg, fs, wf, hc⟩ := Ow.row_at' HRf.out hx; subst eg
    have HTk : Hid (Pp.ownL c st (c.fields.take (k + 1)) = Pp.ownL c st (c.fields.take k) ++ (if f.stat = st then [⟨c.name, f.name, f.ty⟩] else [])) := hide (by
     rw [List.take_add_one, hx]
     exact Pp.ownL_snoc c st _ f)
    obtain ⟨fnm, ⟨fk, ftn⟩, fst⟩ := f; obtain ⟨rfl, _⟩ := wf; have HBw := HB0.out.trans (HBr.out.mono HB0.out.size); have r0 := hc wr HBw 0 _ rfl; have r1 := hc wr HBw 1 _ rfl; have r2 := hc wr HBw 2 _ rfl; have r3 := hc wr HBw 3 _ rfl; rw [Nat.add_zero] at r0; dsimp only at r0 r1 r2 r3 HTk; have hlt' : (k : Int) < (n : Int) := by omega
    clear hx hc HBw; have hA : Below wr.heap.size wr (wr.alloc (.cells #[.string ⟨fnm.toArray⟩, .int .i64 fk, .string ⟨ftn.toArray⟩, .bool fst] 88)) := (Below.refl _ _).alloc (Nat.le_refl _) _; have HBA := hide (HBr.out.trans (hA.mono HBr.out.size)); have HOA := hide (HO.out.on hA fun _ _ h => h); have hbx := heap_alloc_new wr (.cells #[.string ⟨fnm.toArray⟩, .int .i64 fk, .string ⟨ftn.toArray⟩, .bool fst] 88); have b0 := cell_box hbx 0; have b1 := cell_box hbx 1; have b2 := cell_box hbx 2; have b3 := cell_box hbx 3; have b4 := HC.out _ HBA.out; clear hA hbx; by_cases hs : fst = st
    · subst hs
      have HTk0 : Hid (Pp.ownL c fst (c.fields.take (k + 1)) = Pp.ownL c fst (c.fields.take k) ++ [⟨c.name, fnm, ⟨fk, ftn⟩⟩]) := hide (by rw [HTk.out, if_pos rfl])
      have HRo : Hid (∀ w1 : World, RowX (w1.alloc (.cells #[.string NB, .string ⟨fnm.toArray⟩, .int .i64 fk, .string ⟨ftn.toArray⟩] 66)) 4 SltX (.slice (some ⟨w1.heap.size, 0, none⟩) 1 1) [⟨c.name, fnm, ⟨fk, ftn⟩⟩]) := hide fun w1 => by
       rw [HNB.out]; exact Ow.row_one' (P := SltX) (x := ⟨c.name, fnm, ⟨fk, ftn⟩⟩) (ys := [.string ⟨c.name.toArray⟩, .string ⟨fnm.toArray⟩, .int .i64 fk, .string ⟨ftn.toArray⟩]) rfl
      have hll : (Pp.ownL c fst (c.fields.take k)).length <= 100 := by rw [<- HLn.out]; exact hlk
      have HO2 := hide (HOA.out.on (w' := (wr.alloc (.cells #[.string ⟨fnm.toArray⟩, .int .i64 fk, .string ⟨ftn.toArray⟩, .bool fst] 88)).alloc (.cells #[.string NB, .string ⟨fnm.toArray⟩, .int .i64 fk, .string ⟨ftn.toArray⟩] 66)) ((Below.refl _ _).alloc (Nat.le_refl _) _) fun _ _ h => h); have HR2 := hide (HRo.out (wr.alloc (.cells #[.string ⟨fnm.toArray⟩, .int .i64 fk, .string ⟨ftn.toArray⟩, .bool fst] 88))); have HB2 := hide (HBA.out.trans (((Below.refl _ _).alloc (Nat.le_refl _) (.cells #[.string NB, .string ⟨fnm.toArray⟩, .int .i64 fk, .string ⟨ftn.toArray⟩] 66)).mono HBA.out.size)); clear HRo HOA HBA
      go_wp2_with (at_builtin; refine Ow.wpList_app rfl (.tmp 19) (.tmp 27) 59 rfl Tryz.underlying59 hj hj0 hj1 hj2 (by decide) shp_slt (by first | rfl | simp [Act.eval, Act.put]) HO2.out (by first | rfl | simp [Act.eval, Act.put]) HR2.out (by simp; omega) (by decide) HB2.out.size ?_)
      intro v5 w5 ho5 hg5; have HB5 := hide (HB2.out.trans (Ow.bel_grown HO2.out HB2.out.size hg5)); have HO5 := hide ho5; clear ho5 hg5 HO2 HR2 HB2; obtain ⟨xa, xc, rfl⟩ := HO5.out.shape; go_wp2_with fail
      go_roundw
      case rel => exact ⟨k + 1, xa, xc, _, by omega, by go_num, rfl, by rw [HTk0.out], HB5, by rw [HTk0.out]; exact hide (by have := HO5.out; simpa using this)⟩
      case measure => simp [intOf]; omega
    · have hs' : (fst == st) = false := by simpa using hs
      have HTk0 : Hid (Pp.ownL c st (c.fields.take (k + 1)) = Pp.ownL c st (c.fields.take k)) := hide (by rw [HTk.out, if_neg hs, List.append_nil])
      clear hs; go_wp2_with fail
      go_roundw
      case rel => exact ⟨k + 1, la, lc, ln, by omega, by go_num, rfl, by rw [HTk0.out]; exact HLn.out, HBA, by rw [HTk0.out]; exact HOA⟩
      case measure => simp [intOf]; omega
  · have hkn : k = n := by omega
    subst hkn; have HE : Hid (Pp.ownL c st (c.fields.take k) = Pp.ownL c st c.fields) := hide (by rw [List.take_of_length_le (by rw [<- HN.out]; exact Nat.le_refl _)])
    have hnl : ¬ ((k : Int) < (k : Int)) := by omega
    go_wp2_with fail; go_ret; refine ⟨_, rfl, ?_, HB0.out.trans (HBr.out.mono HB0.out.size)⟩; have := HO.out.low HB0.out.size fun _ _ h => h; rw [HE.out] at this; exact this
def lookL (acc more : List Nat) : List Nat := more.foldl (fun a b => if b ∈ a then a else a ++ [b]) acc
theorem lookL_snoc (acc more : List Nat) (b : Nat) : lookL acc (more ++ [b]) = if b ∈ lookL acc more then lookL acc more else lookL acc more ++ [b] := by
 unfold lookL; rw [List.foldl_append]; rfl
theorem lookL_len (acc : List Nat) : ∀ more : List Nat, (lookL acc more).length <= acc.length + more.length := by
 unfold lookL; intro more
 induction more generalizing acc with
 | nil => simp
 | cons b r ih =>
   rw [List.foldl_cons]; have := ih (if b ∈ acc then acc else acc ++ [b])
   have h2 : (if b ∈ acc then acc else acc ++ [b]).length <= acc.length + 1 := by split <;> simp
   simp only [List.length_cons]; omega
def Live (w : World) (l : List Nat) : Prop := ∀ x ∈ l, ∃ c, w.heap[x]? = some (.cells c 84 (0, 0))
theorem i_tab : (Tryz.prog.info? 84).map (fun i => (i.zero.map (fun z => z.cells.size), i.size, i.bytes)) = some (some 14, 14, 232) := by kernel_rfl
theorem eq_tab (w : World) (x y : Nat) (hx : ∃ c, w.heap[x]? = some (.cells c 84 (0, 0))) (hy : ∃ c, w.heap[y]? = some (.cells c 84 (0, 0))) :
 (binOp .eql 51 (.pointer (some ⟨x, 0, none⟩)) (.pointer (some ⟨y, 0, none⟩))).run Tryz.prog w = .ok (.bool (decide (x = y))) w := by
 obtain ⟨j0, hj, _, hj1, _⟩ := Ow.info_of' i_tab; by_cases h : x = y
 · subst h
   rw [decide_eq_true rfl]; exact run_eql_ptr_same w _ Tryz.underlying51 hj
 · rw [decide_eq_false h]
   obtain ⟨cx, hx⟩ := hx; obtain ⟨cy, hy⟩ := hy; exact run_eql_ptr_other w Tryz.underlying51 hj (by rw [hj1]; decide) (fun e => h (by injection e)) hx hy
theorem indexT_any (l : List Nat) (b : Nat) (v : Value) (w : World) (h : RowX w 1 PtrX v l) (hn : l.length <= 1000) (hl : Live w (b :: l)) :
 Calls Tryz.prog 68 #[v, .pointer (some ⟨b, 0, none⟩)] w fun e w' => (∃ n : Int, e = .returned (.int .i64 n) /\ (0 <= n ↔ b ∈ l)) /\ w' = w := by
 have HR := hide h; have HL := hide hl; obtain ⟨a, c, rfl, _⟩ := h.len; clear h hl; obtain ⟨n, hn'⟩ : ∃ q, q = l.length := ⟨_, rfl⟩; have HN := hide hn'; rw [<- hn'] at HR hn ⊢; clear hn'; go_enter Tryz.func68, Tryz.ntmps68; go_wp2_with fail
 go_loop [8] (fun i => ∃ k : Nat, k <= n /\ i = .int .i64 k /\ Hid (b ∉ l.take k)) (fun i => n - (intOf i).toNat)
 case atStart => exact ⟨0, Nat.zero_le _, rfl, hide (by simp)⟩
 case round =>
  obtain ⟨k, hk, rfl, HNo⟩ := hrel; by_cases hlt : k < n
  · obtain ⟨x, hx⟩ : ∃ x, l[k]? = some x := ⟨l[k]'(by rw [<- HN.out]; exact hlt), List.getElem?_eq_getElem _⟩
    obtain ⟨g, o, eg, ys, wf, hc⟩ := Ow.row_at' HR.out hx; subst eg; have hwf : ys = [.pointer (some ⟨x, 0, none⟩)] := wf; subst hwf; have r0 := hc w (Below.refl _ _) 0 _ rfl; rw [Nat.add_zero, Nat.mul_one] at r0; have HX := hide hx; have hlt' : (k : Int) < (n : Int) := by omega
    have hq := eq_tab w b x (HL.out b (by simp)) (HL.out x (by simp [List.mem_of_getElem? hx]))
    clear hc wf hx; by_cases hb : b = x
    · rw [decide_eq_true hb] at hq
      rw [<- hb] at HX; have HIn := hide (List.mem_of_getElem? HX.out); clear hb; go_wp2_with fail; go_ret; exact ⟨⟨_, rfl, by constructor <;> intro _ <;> first | exact HIn.out | omega⟩, rfl⟩
    · rw [decide_eq_false hb] at hq
      have HNo2 : Hid (b ∉ l.take (k + 1)) := hide (by
       rw [List.take_add_one, HX.out, List.mem_append]; rintro (h | h)
       · exact HNo.out h
       · simp at h; exact hb h)
      clear hb; go_wp2_with fail
      go_round
      case rel => exact ⟨k + 1, by omega, by go_num, HNo2⟩
      case measure => simp [intOf]; omega
  · have HN2 : Hid (b ∉ l) := hide (by have := HNo.out; rwa [List.take_of_length_le (by rw [<- HN.out]; omega)] at this)
    have hnl : ¬ ((k : Int) < (n : Int)) := by omega
    go_wp2_with fail; go_ret; exact ⟨⟨_, rfl, by constructor <;> intro h <;> first | exact absurd h HN2.out | omega⟩, rfl⟩
theorem hasT_any (l : List Nat) (b : Nat) (v : Value) (w : World) (h : RowX w 1 PtrX v l) (hn : l.length <= 1000) (hl : Live w (b :: l)) :
 Calls Tryz.prog 47 #[v, .pointer (some ⟨b, 0, none⟩)] w fun e w' => e = .returned (.bool (decide (b ∈ l))) /\ w' = w := by
 have hI := hide (indexT_any l b v w h hn hl); obtain ⟨a, c, rfl, _⟩ := h.len; clear h hl; go_enter Tryz.func47, Tryz.ntmps47; go_wp2_with fail; refine hI.out.mono ?_; rintro e w1 ⟨⟨m, rfl, hm⟩, hw1⟩; have hw1' := hw1.symm; subst hw1'; have HM := hide hm; clear hI hm hw1; go_wp2_with fail; go_ret; refine ⟨?_, rfl⟩; by_cases h : b ∈ l
 · rw [decide_eq_true h]; have := HM.out.2 h; simp; omega
 · rw [decide_eq_false h]; have : ¬ 0 <= m := fun h2 => h (HM.out.1 h2); simp; omega
structure Fx (S : Nat -> Prop) (w w' : World) : Prop where
 bel : Below 0 w w'
 blk : ∀ k, k < w.heap.size -> ¬ S k -> w'.heap[k]? = w.heap[k]?
theorem Fx.refl (S : Nat -> Prop) (w : World) : Fx S w w := ⟨Below.refl _ _, fun _ _ _ => rfl⟩
theorem Fx.size {S : Nat -> Prop} {w w' : World} (h : Fx S w w') : w.heap.size <= w'.heap.size := h.bel.size
theorem Fx.trans {S : Nat -> Prop} {a b c : World} (h : Fx S a b) (k : Fx S b c) : Fx S a c :=
 ⟨h.bel.trans k.bel, fun i hi hn => (k.blk i (Nat.lt_of_lt_of_le hi h.size) hn).trans (h.blk i hi hn)⟩
theorem Fx.mono {S S' : Nat -> Prop} {a b : World} (h : Fx S a b) (hs : ∀ k, k < a.heap.size -> S k -> S' k) : Fx S' a b := ⟨h.bel, fun k hk hn => h.blk k hk fun hx => hn (hs k hk hx)⟩
theorem Fx.below {S : Nat -> Prop} {a b : World} (h : Below a.heap.size a b) : Fx S a b := ⟨h.mono (Nat.zero_le _), fun k hk _ => h.block k hk⟩
theorem Fx.alloc (S : Nat -> Prop) (w : World) (o : Obj) : Fx S w (w.alloc o) := Fx.below ((Below.refl _ _).alloc (Nat.le_refl _) o)
theorem Fx.set {S : Nat -> Prop} {w : World} {b k : Nat} (hb : S b) (u : Value) : Fx S w (w.setCell ⟨b, k, none⟩ u) :=
 ⟨(Below.refl 0 w).setCell (Nat.zero_le _) u, fun i _ hn => Below.heap_setCell _ _ _ _ (fun h => hn (h ▸ hb))⟩
theorem Fx.grown {w w' : World} {r : Option Nat} (h : w.grownBy w' r) : Fx (fun k => r = some k) w w' :=
 ⟨Below.grown (Below.refl 0 w) h (Nat.zero_le _) (fun _ _ => Nat.zero_le _), fun k hk hn => h.block k hk fun e => hn e.symm⟩
def Stb {α : Type} (S : Nat -> Prop) (w : World) (sz : Nat) (P : α -> List Value -> Prop) (v : Value) (l : List α) : Prop :=
 ∃ a c, v = .slice a l.length c /\ l.length <= c /\ (l = [] \/ ∃ b o, a = some ⟨b, o, none⟩ /\ b < w.heap.size /\ ¬ S b /\ ∀ (k : Nat) (x : α), l[k]? = some x -> ∃ ys, P x ys /\ ∀ (j : Nat) (u : Value), ys[j]? = some u -> w.cell? ⟨b, o + k * sz + j, none⟩ = some u)
theorem Stb.row {α : Type} {S : Nat -> Prop} {w : World} {sz : Nat} {P : α -> List Value -> Prop} {v : Value} {l : List α} (h : Stb S w sz P v l) : RowX w sz P v l := by
 obtain ⟨a, c, h1, h2, h⟩ := h; refine ⟨a, c, h1, h2, ?_⟩
 rcases h with h | ⟨b, o, h3, h4, _, h5⟩
 · exact .inl h
 · exact .inr ⟨b, o, h3, h4, h5⟩
theorem cell_of_blk {w w' : World} {b k : Nat} (h : w'.heap[b]? = w.heap[b]?) : w'.cell? ⟨b, k, none⟩ = w.cell? ⟨b, k, none⟩ := by
 unfold World.cell?; simp only [h]
theorem Stb.on {α : Type} {S : Nat -> Prop} {w w' : World} {sz : Nat} {P P' : α -> List Value -> Prop} {v : Value} {l : List α} (h : Stb S w sz P v l) (hf : Fx S w w') (hp : ∀ x ys, P x ys -> P' x ys) : Stb S w' sz P' v l := by
 obtain ⟨a, c, h1, h2, h⟩ := h; refine ⟨a, c, h1, h2, ?_⟩
 rcases h with h | ⟨b, o, h3, h4, h5, h6⟩
 · exact .inl h
 · refine .inr ⟨b, o, h3, Nat.lt_of_lt_of_le h4 hf.size, h5, fun k x hk => ?_⟩
   obtain ⟨ys, p1, p2⟩ := h6 k x hk; exact ⟨ys, hp x ys p1, fun j u hj => (cell_of_blk (hf.blk b h4 h5)).trans (p2 j u hj)⟩
theorem Stb.sub {α : Type} {S S' : Nat -> Prop} {w : World} {sz : Nat} {P : α -> List Value -> Prop} {v : Value} {l : List α} (h : Stb S w sz P v l) (hs : ∀ k, k < w.heap.size -> S' k -> S k) : Stb S' w sz P v l := by
 obtain ⟨a, c, h1, h2, h⟩ := h; refine ⟨a, c, h1, h2, ?_⟩
 rcases h with h | ⟨b, o, h3, h4, h5, h6⟩
 · exact .inl h
 · exact .inr ⟨b, o, h3, h4, fun hx => h5 (hs b h4 hx), h6⟩
theorem Live.on {S : Nat -> Prop} {w w' : World} {l : List Nat} (h : Live w l) (hf : Fx S w w') (hs : ∀ x ∈ l, ¬ S x) : Live w' l := fun x hx => by
 obtain ⟨c, hc⟩ := h x hx; exact ⟨c, (hf.blk x (Ow.lt_of_blk hc) (hs x hx)).trans hc⟩
namespace Ow
section
variable {α : Type} {P : α -> List Value -> Prop} {sz base e : Nat} {w : World} {v : Value} {l : List α}
theorem run_app2s {Pr : Program} {t ty : TypeId} {i : TypeInfo} {n bytes : Nat} (ht : Pr.underlying t = some (.slice e)) (hi : Pr.info? e = some i) (hz : i.zero.map (fun z => z.cells.size) = some sz) (hsize : i.size = sz) (hby : i.bytes = bytes) (hsz : 0 < sz) (hs : Shp P sz)
 (ho : OwnX w base e sz P v l) {v2 : Value} {l2 : List α} (hr : RowX w sz P v2 l2) (h63 : l.length + l2.length <= 1000000) (hb2 : bytes <= 1000) (hbase : base <= w.heap.size) :
 ∃ v' w', (Builtin.append_ #[t, t] ty #[v, v2]).run Pr w = .ok v' w' /\ OwnX w' base e sz P v' (l ++ l2) /\ w.grownBy w' v.ownBlock /\ (v'.ownBlock = v.ownBlock \/ v'.ownBlock = some w.heap.size) := by
 cases hzz : i.zero with
 | none => rw [hzz] at hz; cases hz
 | some z =>
   rw [hzz] at hz; simp at hz; obtain ⟨a, c, rfl, hc, hr⟩ := hr; obtain ⟨news, hf, hown⟩ := ho
   have key : ∀ (ad : Addr) (news2 : List Value), Flat P l2 news2 -> (∀ j u, news2[j]? = some u -> w.cell? (ad.add j) = some u) -> ∃ v' w', (Builtin.append_ #[t, t] ty #[v, .slice (some ad) l2.length c]).run Pr w = .ok v' w' /\ OwnX w' base e sz P v' (l ++ l2) /\ w.grownBy w' v.ownBlock /\ (v'.ownBlock = v.ownBlock \/ v'.ownBlock = some w.heap.size) := by
    intro ad news2 hf2 hc2; have hbb : (l.length + l2.length) * bytes <= 1000000 * 1000 := Nat.mul_le_mul h63 hb2; obtain ⟨v', w', h1, h2, h3, _, h5⟩ := run_append_own_at (P := Pr) w base t ty e i z sz bytes ht hi hzz hsize hby hz hsz v l.length news hown ad l2.length c news2 (hf2.len hs) hc2 (hf2.ones hs) (by unfold maxLen; omega) (by omega) hbase
    exact ⟨v', w', h1, ⟨news ++ news2, hf.app hf2, by rw [List.length_append]; exact h2⟩, h3, h5⟩
   rcases hr with rfl | ⟨b, o, rfl, hlt, hx⟩
   · cases a with
     | some ad => exact key ad [] rfl (by intro j u hj; simp at hj)
     | none =>
       refine ⟨v, w, ?_, ⟨news, by simpa using hf, by simpa using hown⟩, ⟨rfl, rfl, rfl, Nat.le_refl _, fun _ _ _ => rfl⟩, .inl rfl⟩
       rcases hown.2 with ⟨rfl, _⟩ | ⟨g, cap, cur, rfl, _, _, hnc, _⟩
       · simp [Builtin.append_, run_underlying ht, sizeOf, typeInfo, hi, Builtin.lenOf, Builtin.firstCells, loadCells, loadCellsFrom]
       · simp [Builtin.append_, run_underlying ht, sizeOf, typeInfo, hi, Builtin.lenOf, Builtin.firstCells, loadCells, loadCellsFrom, hnc, storeCells]
   · obtain ⟨news2, hf2, hc2⟩ := flat_of hs l2 o hx
     exact key ⟨b, o, none⟩ news2 hf2 (fun j u hj => by rw [Go.WideShapes.add_plain]; exact hc2 j u hj)
theorem wpList_app2s {Pr : Program} {ops : Array Oper} {rest : List Oper} {o : Oper} {a : Act} {Q : Exit -> Act -> World -> Prop} (hgd : o.guard = none) (s x : Operand) (t : TypeId)
 (hop : o.op = .call { callee := .builtin .append, args := #[s, x], argTypes := #[t, t] }) {i : TypeInfo} {bytes : Nat}
 (ht : Pr.underlying t = some (.slice e)) (hi : Pr.info? e = some i) (hz : i.zero.map (fun z => z.cells.size) = some sz) (hsize : i.size = sz) (hby : i.bytes = bytes) (hsz : 0 < sz) (hs : Shp P sz)
 (hv : a.eval s = v) (ho : OwnX w base e sz P v l) {v2 : Value} {l2 : List α} (hv2 : a.eval x = v2) (hr : RowX w sz P v2 l2) (h63 : l.length + l2.length <= 1000000) (hb2 : bytes <= 1000) (hbase : base <= w.heap.size)
 (h : ∀ v' w', OwnX w' base e sz P v' (l ++ l2) -> w.grownBy w' v.ownBlock -> (v'.ownBlock = v.ownBlock \/ v'.ownBlock = some w.heap.size) -> wpList Pr ops Q rest (a.put o.dst v') w') : wpList Pr ops Q (o :: rest) a w := by
 refine wpList_plain hgd fun K hK => ?_; obtain ⟨v', w', hrun, h1, h2, h3⟩ := run_app2s (Pr := Pr) (t := t) (ty := o.type) (n := 0) ht hi hz hsize hby hsz hs ho hr h63 hb2 hbase; unfold Oper.wp execOp; simp only [hop, resolve, invoke, builtin, Sem.run_bind, Sem.run_pure, Result.andThen_ok, List.map_toArray, List.map_cons, List.map_nil, hv, hv2, hrun]; exact hK _ _ (h v' w' h1 h2 h3)
end
end Ow
theorem Fx.then {S T : Nat -> Prop} {a b c : World} (h : Fx S a b) (k : Fx T b c) (hs : ∀ x, x < a.heap.size -> T x -> S x) : Fx S a c :=
 ⟨h.bel.trans k.bel, fun i hi hn => (k.blk i (Nat.lt_of_lt_of_le hi h.size) fun hx => hn (hs i hi hx)).trans (h.blk i hi hn)⟩
theorem put_blk {w : World} {b k : Nat} {c : Array Value} {t : TypeId} (h : w.heap[b]? = some (.cells c t (0, 0))) (u : Value) : (w.setCell ⟨b, k, none⟩ u).heap[b]? = some (.cells (c.setIfInBounds k u) t (0, 0)) := by
 have hlt := Ow.lt_of_blk h; have h' : w.heap[b] = .cells c t (0, 0) := by simpa [Array.getElem?_eq_getElem hlt] using h
 show (w.heap.modify b _)[b]? = _; rw [Array.getElem?_eq_getElem (by simpa using hlt), Array.getElem_modify_self, h']
 rfl
theorem Ow.fzl_blk {w : World} {b : Nat} {c : Array Value} {t : TypeId} (h : w.heap[b]? = some (.cells c t (0, 0))) (o : Nat) : w.frozen? ⟨b, o, none⟩ = false := by
 unfold World.frozen?; rw [h]; simp
theorem Live.more {S : Nat -> Prop} {w w' : World} {l : List Nat} (h : Live w l) (hf : Fx S w w') (hs : ∀ x ∈ l, S x -> ∃ c, w'.heap[x]? = some (.cells c 84 (0, 0))) : Live w' l := fun x hx => by
 obtain ⟨c, hc⟩ := h x hx; by_cases hS : S x
 · exact hs x hx hS
 · exact ⟨c, (hf.blk x (Ow.lt_of_blk hc) hS).trans hc⟩
theorem mem_lookL {x : Nat} : ∀ (more acc : List Nat), x ∈ lookL acc more -> x ∈ acc \/ x ∈ more := by
 intro more
 induction more with
 | nil => intro acc h; exact .inl h
 | cons b r ih =>
   intro acc h; have h2 : lookL acc (b :: r) = lookL (if b ∈ acc then acc else acc ++ [b]) r := rfl
   rw [h2] at h
   rcases ih _ h with h | h
   · split at h
     · exact .inl h
     · rcases List.mem_append.1 h with h | h
       · exact .inl h
       · simp at h; subst h; exact .inr (by simp)
   · exact .inr (List.mem_cons_of_mem _ h)
def upC (cs : Array Value) (v : Value) : Array Value := cs.setIfInBounds 13 v
theorem upC_up (cs : Array Value) (u v : Value) : (upC cs u).setIfInBounds 13 v = upC cs v := by unfold upC; simp
theorem upC_at {cs : Array Value} (h : cs.size = 14) (v : Value) : (upC cs v)[13]? = some v := by unfold upC; simp [h]
theorem upC_self {cs : Array Value} {v : Value} (h : cs[13]? = some v) : upC cs v = cs := by
 unfold upC; apply Array.ext_getElem?; intro i; rw [Array.getElem?_setIfInBounds]
 split
 · next e => subst e; split
             · exact h.symm
             · next h2 => rw [Array.getElem?_eq_none (by omega)] at h; cases h
 · rfl
theorem lookAlso_any (S : Nat -> Prop) (l acc : List Nat) (b base : Nat) (cs : Array Value) (va v : Value) (w : World)
 (hb : w.heap[b]? = some (.cells cs 84 (0, 0))) (h14 : cs.size = 14) (h13 : cs[13]? = some va)
 (ho : Ow.OwnX w base 51 1 PtrX va acc) (hbase : base <= w.heap.size) (hSb : S b) (hSo : ∀ k, va.ownBlock = some k -> S k)
 (hr : Stb S w 1 PtrX v l) (hn : acc.length + l.length <= 1000) (hl : Live w (acc ++ l)) (hne : ∀ x ∈ acc ++ l, S x -> x = b) :
 Calls Tryz.prog 51 #[.pointer (some ⟨b, 0, none⟩), v] w fun e w' => e = .returned (.tuple #[]) /\ ∃ va', w'.heap[b]? = some (.cells (upC cs va') 84 (0, 0)) /\ Ow.OwnX w' base 51 1 PtrX va' (lookL acc l) /\ Fx S w w' /\
  (va'.ownBlock = va.ownBlock \/ ∃ q, w.heap.size <= q /\ va'.ownBlock = some q) := by
 have HR := hide hr; have HL := hide hl; have HNe := hide hne; have HSo := hide hSo; have HSb := hide hSb; have H14 := hide h14; obtain ⟨a, c, rfl, _⟩ := hr.row.len; obtain ⟨n, hn'⟩ : ∃ q, q = l.length := ⟨_, rfl⟩; have HN := hide hn'; rw [<- hn'] at HR ⊢; have HNm := hide hn; have hb0 : Hid (w.heap[b]? = some (.cells (upC cs va) 84 (0, 0))) := hide (by rw [upC_self h13]; exact hb)
 have hbl := Ow.lt_of_blk hb; have HO := hide ho; clear hr hl hne hn' hb h13 ho hSo hSb h14 hn; have hn1 : n <= 1000 := by have h1 := HNm.out; have h2 := HN.out; omega
 obtain ⟨j0, hj, hj0, hj1, hj2⟩ := Ow.info_of' Ow.i_tabp; go_enter Tryz.func51, Tryz.ntmps51; go_wp2_with fail
 go_loopw [8] (fun i wr => ∃ (k : Nat) (vk : Value), k <= n /\ i = .int .i64 k /\ Hid (wr.heap[b]? = some (.cells (upC cs vk) 84 (0, 0))) /\ Hid (Ow.OwnX wr base 51 1 PtrX vk (lookL acc (l.take k))) /\ Hid (Fx S w wr) /\ Hid (vk.ownBlock = va.ownBlock \/ ∃ q, w.heap.size <= q /\ vk.ownBlock = some q)) (fun i _ => n - (intOf i).toNat)
 case atStart => exact ⟨0, va, Nat.zero_le _, rfl, hb0, HO, hide (Fx.refl _ _), hide (.inl rfl)⟩
 case round =>
  obtain ⟨k, vk, hk, rfl, HBk, HOk, HF, HQ⟩ := hrel; obtain ⟨ka, kc, ek⟩ := HOk.out.shape; obtain ⟨ln, hln⟩ : ∃ q, q = (lookL acc (l.take k)).length := ⟨_, rfl⟩; rw [<- hln] at ek; subst ek; have HLn := hide hln; clear hln; have HLk : Hid ((lookL acc (l.take k)).length <= 1000) := hide (by have h1 := lookL_len acc (l.take k); have h2 := HNm.out; rw [List.length_take] at h1; omega)
  have HLv : Hid (Live wr (acc ++ l)) := hide (HL.out.more HF.out fun x hx hs => by rw [HNe.out x hx hs]; exact ⟨_, HBk.out⟩)
  by_cases hlt : k < n
  · obtain ⟨x, hx⟩ : ∃ x, l[k]? = some x := ⟨l[k]'(by rw [<- HN.out]; exact hlt), List.getElem?_eq_getElem _⟩
    have HRr := (HR.out.on HF.out fun _ _ h => h).row; rw [HN.out] at HRr; obtain ⟨g, o, eg, ys, wf, hc⟩ := Ow.row_at' HRr hx; subst eg; have hwf : ys = [.pointer (some ⟨x, 0, none⟩)] := wf; subst hwf; have r0 := hc wr (Below.refl _ _) 0 _ rfl; rw [Nat.add_zero, Nat.mul_one] at r0; have HX := hide hx; have c13 : wr.cell? ⟨b, 13, none⟩ = some (.slice ka ln kc) := (cell_box HBk.out 13).trans (upC_at H14.out _); have hlt' : (k : Int) < (n : Int) := by omega
    have HT := hide (hasT_any (lookL acc (l.take k)) x (.slice ka ln kc) wr (HOk.out.row shp_ptr fun _ _ h => h) HLk.out (by
     intro y hy
     rcases List.mem_cons.1 hy with rfl | hy
     · exact HLv.out _ (List.mem_append.2 (.inr (List.mem_of_getElem? HX.out)))
     · rcases mem_lookL _ _ hy with hy | hy
       · exact HLv.out _ (List.mem_append.2 (.inl hy))
       · exact HLv.out _ (List.mem_append.2 (.inr (List.mem_of_mem_take hy)))))
    clear hc wf hx HRr; by_cases hin : x ∈ lookL acc (l.take k)
    · rw [decide_eq_true hin] at HT
      have HTk : Hid (lookL acc (l.take (k + 1)) = lookL acc (l.take k)) := hide (by rw [List.take_add_one, HX.out]; exact (lookL_snoc _ _ _).trans (if_pos hin))
      clear hin; go_wp2_with fail; refine HT.out.mono ?_; rintro e w1 ⟨rfl, hw1⟩; have hw1' := hw1.symm; subst hw1'; clear HT hw1; go_wp2_with fail
      go_roundw
      case rel => exact ⟨k + 1, _, by omega, by go_num, HBk, by rw [HTk.out]; exact HOk, HF, HQ⟩
      case measure => simp [intOf]; omega
    · rw [decide_eq_false hin] at HT
      have HTk : Hid (lookL acc (l.take (k + 1)) = lookL acc (l.take k) ++ [x]) := hide (by rw [List.take_add_one, HX.out]; exact (lookL_snoc _ _ _).trans (if_neg hin))
      have hA : Below wr.heap.size wr (wr.alloc (.cells #[.pointer (some ⟨x, 0, none⟩)] 51)) := (Below.refl _ _).alloc (Nat.le_refl _) _; have HR2 : Hid (RowX (wr.alloc (.cells #[.pointer (some ⟨x, 0, none⟩)] 51)) 1 PtrX (.slice (some ⟨wr.heap.size, 0, none⟩) 1 1) [x]) := hide (Ow.row_one' (P := PtrX) (x := x) (ys := [.pointer (some ⟨x, 0, none⟩)]) rfl); have HO2 := hide (HOk.out.on hA fun _ _ h => h); have hbr := Ow.lt_of_blk HBk.out; have HB2 : Hid ((wr.alloc (.cells #[.pointer (some ⟨x, 0, none⟩)] 51)).heap[b]? = some (.cells (upC cs (.slice ka ln kc)) 84 (0, 0))) := hide ((hA.block b hbr).trans HBk.out); have HS2 : Hid (base <= (wr.alloc (.cells #[.pointer (some ⟨x, 0, none⟩)] 51)).heap.size) := hide (by have := HF.out.size; have := hA.size; omega)
      have HF2 : Hid (Fx S w (wr.alloc (.cells #[.pointer (some ⟨x, 0, none⟩)] 51))) := hide (HF.out.trans (Fx.below hA)); have hll : (lookL acc (l.take k)).length <= 1000 := HLk.out; clear hin hA hbr; go_wp2_with fail; refine HT.out.mono ?_; rintro e w1 ⟨rfl, hw1⟩; have hw1' := hw1.symm; subst hw1'; clear HT hw1
      go_wp2_with (at_builtin; refine Ow.wpList_app2s rfl (.tmp 23) (.tmp 25) 47 rfl Tryz.underlying47 hj hj0 hj1 hj2 (by decide) shp_ptr (by first | rfl | simp [Act.eval, Act.put]) HO2.out (by first | rfl | simp [Act.eval, Act.put]) HR2.out (by simp; omega) (by decide) HS2.out ?_)
      intro v5 w5 ho5 hg5 hq5
      have HQ5 : Hid (v5.ownBlock = va.ownBlock \/ ∃ q, w.heap.size <= q /\ v5.ownBlock = some q) := hide (by
       rcases hq5 with h | h
       · rcases HQ.out with h2 | ⟨q, h2, h3⟩
         · exact .inl (h.trans h2)
         · exact .inr ⟨q, h2, h.trans h3⟩
       · refine .inr ⟨_, ?_, h⟩
         have h2 := HF.out.size
         omega)
      have HF5 : Hid (Fx S w w5) := hide (HF2.out.then (Fx.grown hg5) (by
       intro y hy h
       rcases HQ.out with h2 | ⟨q, h2, h3⟩
       · exact HSo.out y (h2.symm.trans h)
       · rw [h3] at h; injection h with h; omega))
      have HB5 : Hid (w5.heap[b]? = some (.cells (upC cs (.slice ka ln kc)) 84 (0, 0))) := hide ((hg5.block b (Ow.lt_of_blk HB2.out) (fun h => by
       obtain ⟨nw, _, hown⟩ := HO2.out; obtain ⟨cc, hcc⟩ := Ow.own_at hown _ h.symm; rw [HB2.out] at hcc
       cases hcc)).trans HB2.out)
      have HO5 := hide ho5; clear ho5 hg5 hq5 HO2 HR2 HB2 HS2 HF2; obtain ⟨xa, xc, rfl⟩ := HO5.out.shape; have hlen : (lookL acc (l.take k) ++ [x]).length = (lookL acc (l.take k)).length + 1 := by simp
      rw [hlen] at HQ5 HO5; clear hlen; have c5 : w5.cell? ⟨b, 13, none⟩ = some (.slice ka ln kc) := (cell_box HB5.out 13).trans (upC_at H14.out _); have z5 : w5.frozen? ⟨b, 13, none⟩ = false := Ow.fzl_blk HB5.out 13; go_wp2_with fail
      go_roundw
      case rel =>
       refine ⟨k + 1, .slice xa ((lookL acc (l.take k)).length + 1) xc, by omega, by go_num, hide (by rw [<- upC_up]; exact put_blk HB5.out _), ?_, hide (HF5.out.trans (Fx.set HSb.out _)), HQ5⟩
       rw [HTk.out]
       exact hide (HO5.out.keep (fun _ _ h => h) fun i c hi => (Below.heap_setCell w5 ⟨b, 13, none⟩ _ i (fun e => by
        have e : i = b := e; rw [e, HB5.out] at hi
        cases hi)).trans hi)
      case measure => simp [intOf]; omega
  · have hnl : ¬ ((k : Int) < (n : Int)) := by omega
    have HTl : Hid (lookL acc (l.take k) = lookL acc l) := hide (by rw [List.take_of_length_le (by rw [<- HN.out]; omega)])
    go_wp2_with fail; exact bodyPost_end (v := .tuple #[]) (by simp [results, Tryz.results51, go_sem]) rfl ⟨rfl, _, HBk.out, by rw [<- HTl.out]; exact HOk.out, HF.out, HQ.out⟩
theorem i_slotZ : (Tryz.prog.info? 66).map (fun i => (i.zero.map (fun z => z.cells.size), i.size, i.bytes)) = some (some 4, 4, 56) := by kernel_rfl
theorem sgrow_any (n : Nat) (w : World) (hn : n <= 1000000) :
 Calls Tryz.prog 91 #[.slice none 0 0, .int .i64 n] w fun e w' => ∃ v, e = .returned v /\ Ow.OwnX w' w.heap.size 66 4 SltX v [] /\ Below w.heap.size w w' := by
 obtain ⟨i0, hi0, hz0, hs0, hb0⟩ := Ow.info_of' i_slotZ
 obtain ⟨z, hz, hzc⟩ : ∃ z, i0.zero = some z /\ z.cells.size = 4 := by
  cases h : i0.zero with
  | none => rw [h] at hz0; cases hz0
  | some z => rw [h] at hz0; exact ⟨z, rfl, by simpa using hz0⟩
 by_cases h0 : n = 0
 · subst h0
   go_enter Tryz.func91, Tryz.ntmps91; go_wp2; go_ret; exact ⟨_, rfl, Ow.OwnX.nil _ _ _ _ _, Below.refl _ _⟩
 · have hrz : ∀ ty, (Builtin.append_ #[59, 3] ty #[.slice none 0 0, .int .i64 n]).run Tryz.prog w =
    .ok (.slice (some ⟨w.heap.size, 0, none⟩) n (grownCap w n 0 66)) (w.drew.alloc (.cells (Builtin.zeroCells z.cells n ++ Builtin.zeroCells z.cells (grownCap w n 0 66 - n)) 66)) := fun ty => by
    have h := Go.Lib.run_append_grow_zeros (P := Tryz.prog) w 59 3 ty 66 i0 z .i64 .i64 Tryz.underlying59 Tryz.underlying3 hi0 hz none 0 0 [] (run_firstCells_none w.drew i0.size 0 0 0) n (by omega) (by omega) (by omega) (by omega) (by rw [hb0]; omega) (by rw [hb0]; exact growslice_fits (by omega) (by omega))
    simpa using h
   obtain ⟨zc, hzq⟩ : ∃ q, q = z.cells := ⟨_, rfl⟩; rw [<- hzq] at hrz hzc; clear hzq; have hGn : n <= grownCap w n 0 66 := grownCap_ge w _ _ _; obtain ⟨G, hG⟩ : ∃ G, G = grownCap w n 0 66 := ⟨_, rfl⟩; rw [<- hG] at hrz hGn
   have hGl : G <= maxLen := by
    have := grownCap_le_maxLen w n 0 66 (by unfold maxLen; omega)
    rwa [<- hG] at this
   have hG63 : G <= 9223372036854775807 := by unfold maxLen at hGl; omega
   have h4 : (n : Int) > 0 := by omega
   clear hG; go_enter Tryz.func91, Tryz.ntmps91
   go_wp2_with (at_builtin; refine Go.Lib.wpList_append_run _ rfl _ _ _ _ rfl _ _ rfl rfl _ _ (hrz _) ?_)
   go_ret; refine ⟨_, rfl, ⟨[], rfl, rfl, .inr ⟨_, G, _, rfl, Nat.le_refl _, heap_alloc_new w _, Nat.zero_le _, hGl, ?_, rfl⟩⟩, ((Below.refl _ _).alloc (Nat.le_refl _) _).drew⟩; rw [Array.size_append, size_zeroCells, size_zeroCells, hzc, <- Nat.add_mul]
   congr 1
   omega
theorem concat_any (g o c : Nat) (v1 v2 : Value) (l1 l2 : List Pp.Slt) (w : World) (h1 : RowX w 4 SltX v1 l1) (h2 : RowX w 4 SltX v2 l2) (c1 : w.cell? ⟨g, o, none⟩ = some v1) (c2 : w.cell? ⟨g, o + 1, none⟩ = some v2) (hg : g < w.heap.size) (hn : l1.length + l2.length <= 1000000) :
 Calls Tryz.prog 73 #[.slice (some ⟨g, o, none⟩) 2 c] w fun e w' => ∃ v, e = .returned v /\ Ow.OwnX w' w.heap.size 66 4 SltX v (l1 ++ l2) /\ Below w.heap.size w w' := by
 have HR1 := hide h1; have HR2 := hide h2; obtain ⟨a1, k1, rfl, _⟩ := h1.len; obtain ⟨a2, k2, rfl, _⟩ := h2.len; clear h1 h2; obtain ⟨n1, hn1⟩ : ∃ q, q = l1.length := ⟨_, rfl⟩; obtain ⟨n2, hn2⟩ : ∃ q, q = l2.length := ⟨_, rfl⟩; have HN1 := hide hn1; have HN2 := hide hn2; rw [<- hn1] at HR1 c1 hn; rw [<- hn2] at HR2 c2 hn; clear hn1 hn2; have HC1 : Hid (∀ wx, Below w.heap.size w wx -> wx.cell? ⟨g, o, none⟩ = some (.slice a1 n1 k1)) := hide fun wx hb => (hb.cell hg).trans c1; have HC2 : Hid (∀ wx, Below w.heap.size w wx -> wx.cell? ⟨g, o + 1, none⟩ = some (.slice a2 n2 k2)) := hide fun wx hb => (hb.cell hg).trans c2; obtain ⟨j0, hj, hj0, hj1, hj2⟩ := Ow.info_of' Ow.i_slot; have hG := hide (sgrow_any (n1 + n2) w hn); go_enter Tryz.func73, Tryz.ntmps73; go_wp2_with fail
 go_loop [3, 11] (fun s i => (i = .int .i64 0 /\ s = .int .i64 0) \/ (i = .int .i64 1 /\ s = .int .i64 n1) \/ (i = .int .i64 2 /\ s = .int .i64 ((n1 + n2 : Nat) : Int))) (fun _ i => 2 - (intOf i).toNat)
 case atStart => exact .inl ⟨rfl, rfl⟩
 case round =>
  rcases hrel with ⟨rfl, rfl⟩ | ⟨rfl, rfl⟩ | ⟨rfl, rfl⟩
  · have b1 := HC1.out w (Below.refl _ _)
    go_wp2_with fail
    go_round
    case rel => exact .inr (.inl ⟨by go_num, by go_num⟩)
    case measure => simp [intOf]
  · have b1 := HC2.out w (Below.refl _ _)
    go_wp2_with fail
    go_round
    case rel => exact .inr (.inr ⟨by go_num, by go_num⟩)
    case measure => simp [intOf]
  · go_wp2_with fail
    refine hG.out.mono ?_; rintro e w1 ⟨v0, rfl, ho0, hb0⟩; have HO0 := hide ho0; have HB0 := hide hb0; clear hG ho0 hb0; obtain ⟨xa, xc, rfl⟩ := HO0.out.shape; go_wp2_with fail
    go_loopw [6, 27] (fun v i wr => Hid (Below w.heap.size w wr) /\ ((i = .int .i64 0 /\ Hid (Ow.OwnX wr w.heap.size 66 4 SltX v [])) \/ (i = .int .i64 1 /\ Hid (Ow.OwnX wr w.heap.size 66 4 SltX v l1)) \/ (i = .int .i64 2 /\ Hid (Ow.OwnX wr w.heap.size 66 4 SltX v (l1 ++ l2))))) (fun _ i _ => 2 - (intOf i).toNat)
    case atStart => exact ⟨HB0, .inl ⟨rfl, HO0⟩⟩
    case round =>
     obtain ⟨HBr, hrel⟩ := hrel
     rcases hrel with ⟨rfl, HO⟩ | ⟨rfl, HO⟩ | ⟨rfl, HO⟩
     · have b1 := HC1.out wr HBr.out
       have HRo : Hid (RowX wr 4 SltX _ _) := hide (HR1.out.on HBr.out fun _ _ h => h); obtain ⟨va, vc, rfl⟩ := HO.out.shape; have hsz := HBr.out.size; have hbd : ([] : List Pp.Slt).length + l1.length <= 1000000 := by have e1 := HN1.out; simp; omega
       go_wp2_with (at_builtin; refine Ow.wpList_app rfl (.tmp 31) (.tmp 32) 59 rfl Tryz.underlying59 hj hj0 hj1 hj2 (by decide) shp_slt (by first | rfl | simp [Act.eval, Act.put]) HO.out (by first | rfl | simp [Act.eval, Act.put]) HRo.out hbd (by decide) hsz ?_)
       intro v5 w5 ho5 hg5; have HB5 := hide (HBr.out.trans (Ow.bel_grown HO.out hsz hg5)); have HO5 := hide ho5; clear ho5 hg5 HO HRo HBr b1; obtain ⟨ya, yc, rfl⟩ := HO5.out.shape; go_wp2_with fail
       go_roundw
       case rel => exact ⟨HB5, .inr (.inl ⟨by go_num, HO5⟩)⟩
       case measure => simp [intOf]
     · have b1 := HC2.out wr HBr.out
       have HRo : Hid (RowX wr 4 SltX _ _) := hide (HR2.out.on HBr.out fun _ _ h => h); obtain ⟨va, vc, rfl⟩ := HO.out.shape; have hsz := HBr.out.size; have hbd : l1.length + l2.length <= 1000000 := by have e1 := HN1.out; have e2 := HN2.out; omega
       go_wp2_with (at_builtin; refine Ow.wpList_app rfl (.tmp 31) (.tmp 32) 59 rfl Tryz.underlying59 hj hj0 hj1 hj2 (by decide) shp_slt (by first | rfl | simp [Act.eval, Act.put]) HO.out (by first | rfl | simp [Act.eval, Act.put]) HRo.out hbd (by decide) hsz ?_)
       intro v5 w5 ho5 hg5; have HB5 := hide (HBr.out.trans (Ow.bel_grown HO.out hsz hg5)); have HO5 := hide ho5; clear ho5 hg5 HO HRo HBr b1; obtain ⟨ya, yc, rfl⟩ := HO5.out.shape; go_wp2_with fail
       go_roundw
       case rel => exact ⟨HB5, .inr (.inr ⟨by go_num, HO5⟩)⟩
       case measure => simp [intOf]
     · obtain ⟨va, vc, rfl⟩ := HO.out.shape
       go_wp2_with fail; go_ret; exact ⟨_, rfl, HO.out, HBr.out⟩
end Go.Proofs.YtjlappamkfjlkabGreatDoor

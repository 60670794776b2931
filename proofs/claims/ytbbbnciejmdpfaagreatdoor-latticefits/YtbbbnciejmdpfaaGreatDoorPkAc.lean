/- What the laws of this seat lean on: 6 texts. -/
import Derived.Test.YtbbbnciejmdpfaaGreatDoorPkAb
import Derived.LaidEqlPtr
import Derived.Lib.AppendZerosOnto
import Derived.Lib.SliceRun
import Derived.Test.YtbbbnciejmdpfaaGreatDoorRows
import Derived.WalkKit
import Derived.WalkSpells
import Derived.WalkLawsBesides
import Derived.Tactics
import Derived.Tactics2
import Derived.Defers
import Derived.Laws.Pointers
import Derived.Laws.LoneSync
import Derived.RegionTactic
import Derived.RegionCalls
import Derived.ChangeAlike
import Derived.BigQuiet
set_option maxRecDepth 100000
set_option maxHeartbeats 64000000
set_option linter.unusedVariables false
set_option linter.unusedSimpArgs false
namespace Go.Proofs.YtbbbnciejmdpfaaGreatDoor
open Go.RowKit
def lookL (acc more : List Nat) : List Nat := more.foldl (fun a b => if b ∈ a then a else a ++ [b]) acc
theorem lookL_snoc (acc more : List Nat) (b : Nat) : lookL acc (more ++ [b]) = if b ∈ lookL acc more then lookL acc more else lookL acc more ++ [b] := by
 unfold lookL; rw [List.foldl_append]; rfl
theorem lookL_len (acc : List Nat) : ∀ more : List Nat, (lookL acc more).length <= acc.length + more.length := by
 unfold lookL; intro more
 induction more generalizing acc with
 | nil => simp
 | cons b r ih =>
   rw [List.foldl_cons]; have := ih (if b ∈ acc then acc else acc ++ [b])
   have h2 : (if b ∈ acc then acc else acc ++ [b]).length <= acc.length + 1 := by split <;> simp
   simp only [List.length_cons]; omega
def Live (w : World) (l : List Nat) : Prop := ∀ x ∈ l, ∃ c, w.heap[x]? = some (.cells c 141 (0, 0))
theorem i_tab : (Tryz.prog.info? 141).map (fun i => (i.zero.map (fun z => z.cells.size), i.size, i.bytes)) = some (some 14, 14, 232) := by kernel_rfl
theorem eq_tab (w : World) (x y : Nat) (hx : ∃ c, w.heap[x]? = some (.cells c 141 (0, 0))) (hy : ∃ c, w.heap[y]? = some (.cells c 141 (0, 0))) :
 (binOp .eql 126 (.pointer (some ⟨x, 0, none⟩)) (.pointer (some ⟨y, 0, none⟩))).run Tryz.prog w = .ok (.bool (decide (x = y))) w := by
 obtain ⟨j0, hj, _, hj1, _⟩ := Ow.info_of' i_tab; by_cases h : x = y
 · subst h
   rw [decide_eq_true rfl]; exact run_eql_ptr_same w _ Tryz.underlying126 hj
 · rw [decide_eq_false h]
   obtain ⟨cx, hx⟩ := hx; obtain ⟨cy, hy⟩ := hy; exact run_eql_ptr_other w Tryz.underlying126 hj (by rw [hj1]; decide) (fun e => h (by injection e)) hx hy
theorem indexT_any (l : List Nat) (b : Nat) (v : Value) (w : World) (h : RowX w 1 PtrX v l) (hn : l.length <= 1000) (hl : Live w (b :: l)) :
 Calls Tryz.prog 127 #[v, .pointer (some ⟨b, 0, none⟩)] w fun e w' => (∃ n : Int, e = .returned (.int .i64 n) /\ (0 <= n ↔ b ∈ l)) /\ w' = w := by
 have HR := hide h; have HL := hide hl; obtain ⟨a, c, rfl, _⟩ := h.len; clear h hl; obtain ⟨n, hn'⟩ : ∃ q, q = l.length := ⟨_, rfl⟩; have HN := hide hn'; rw [<- hn'] at HR hn ⊢; clear hn'; go_enter Tryz.func127, Tryz.ntmps127; go_wp2_with fail
 go_loop [8] (fun i => ∃ k : Nat, k <= n /\ i = .int .i64 k /\ Hid (b ∉ l.take k)) (fun i => n - (intOf i).toNat)
 case atStart => exact ⟨0, Nat.zero_le _, rfl, hide (by simp)⟩
 case round =>
  obtain ⟨k, hk, rfl, HNo⟩ := hrel; by_cases hlt : k < n
  · obtain ⟨x, hx⟩ : ∃ x, l[k]? = some x := ⟨l[k]'(by rw [<- HN.out]; exact hlt), List.getElem?_eq_getElem _⟩
    obtain ⟨g, o, eg, ys, wf, hc⟩ := Ow.row_at' HR.out hx; subst eg; have hwf : ys = [.pointer (some ⟨x, 0, none⟩)] := wf; subst hwf; have r0 := hc w (Below.refl _ _) 0 _ rfl; rw [Nat.add_zero, Nat.mul_one] at r0; have HX := hide hx; have hlt' : (k : Int) < (n : Int) := by omega
    have hq := eq_tab w b x (HL.out b (by simp)) (HL.out x (by simp [List.mem_of_getElem? hx]))
    clear hc wf hx; by_cases hb : b = x
    · rw [decide_eq_true hb] at hq
      rw [<- hb] at HX; have HIn := hide (List.mem_of_getElem? HX.out); clear hb; go_wp2_with fail; go_ret; exact ⟨⟨_, rfl, by constructor <;> intro _ <;> first | exact HIn.out | omega⟩, rfl⟩
    · rw [decide_eq_false hb] at hq
      have HNo2 : Hid (b ∉ l.take (k + 1)) := hide (by
       rw [List.take_add_one, HX.out, List.mem_append]; rintro (h | h)
       · exact HNo.out h
       · simp at h; exact hb h)
      clear hb; go_wp2_with fail
      go_round
      case rel => exact ⟨k + 1, by omega, by go_num, HNo2⟩
      case measure => simp [intOf]; omega
  · have HN2 : Hid (b ∉ l) := hide (by have := HNo.out; rwa [List.take_of_length_le (by rw [<- HN.out]; omega)] at this)
    have hnl : ¬ ((k : Int) < (n : Int)) := by omega
    go_wp2_with fail; go_ret; exact ⟨⟨_, rfl, by constructor <;> intro h <;> first | exact absurd h HN2.out | omega⟩, rfl⟩
theorem hasT_any (l : List Nat) (b : Nat) (v : Value) (w : World) (h : RowX w 1 PtrX v l) (hn : l.length <= 1000) (hl : Live w (b :: l)) :
 Calls Tryz.prog 108 #[v, .pointer (some ⟨b, 0, none⟩)] w fun e w' => e = .returned (.bool (decide (b ∈ l))) /\ w' = w := by
 have hI := hide (indexT_any l b v w h hn hl); obtain ⟨a, c, rfl, _⟩ := h.len; clear h hl; go_enter Tryz.func108, Tryz.ntmps108; go_wp2_with fail; refine hI.out.mono ?_; rintro e w1 ⟨⟨m, rfl, hm⟩, hw1⟩; have hw1' := hw1.symm; subst hw1'; have HM := hide hm; clear hI hm hw1; go_wp2_with fail; go_ret; refine ⟨?_, rfl⟩; by_cases h : b ∈ l
 · rw [decide_eq_true h]; have := HM.out.2 h; simp; omega
 · rw [decide_eq_false h]; have : ¬ 0 <= m := fun h2 => h (HM.out.1 h2); simp; omega
structure Fx (S : Nat -> Prop) (w w' : World) : Prop where
 bel : Below 0 w w'
 blk : ∀ k, k < w.heap.size -> ¬ S k -> w'.heap[k]? = w.heap[k]?
theorem Fx.refl (S : Nat -> Prop) (w : World) : Fx S w w := ⟨Below.refl _ _, fun _ _ _ => rfl⟩
theorem Fx.size {S : Nat -> Prop} {w w' : World} (h : Fx S w w') : w.heap.size <= w'.heap.size := h.bel.size
theorem Fx.trans {S : Nat -> Prop} {a b c : World} (h : Fx S a b) (k : Fx S b c) : Fx S a c :=
 ⟨h.bel.trans k.bel, fun i hi hn => (k.blk i (Nat.lt_of_lt_of_le hi h.size) hn).trans (h.blk i hi hn)⟩
theorem Fx.mono {S S' : Nat -> Prop} {a b : World} (h : Fx S a b) (hs : ∀ k, k < a.heap.size -> S k -> S' k) : Fx S' a b := ⟨h.bel, fun k hk hn => h.blk k hk fun hx => hn (hs k hk hx)⟩
theorem Fx.below {S : Nat -> Prop} {a b : World} (h : Below a.heap.size a b) : Fx S a b := ⟨h.mono (Nat.zero_le _), fun k hk _ => h.block k hk⟩
theorem Fx.alloc (S : Nat -> Prop) (w : World) (o : Obj) : Fx S w (w.alloc o) := Fx.below ((Below.refl _ _).alloc (Nat.le_refl _) o)
theorem Fx.set {S : Nat -> Prop} {w : World} {b k : Nat} (hb : S b) (u : Value) : Fx S w (w.setCell ⟨b, k, none⟩ u) :=
 ⟨(Below.refl 0 w).setCell (Nat.zero_le _) u, fun i _ hn => Below.heap_setCell _ _ _ _ (fun h => hn (h ▸ hb))⟩
theorem Fx.grown {w w' : World} {r : Option Nat} (h : w.grownBy w' r) : Fx (fun k => r = some k) w w' :=
 ⟨Below.grown (Below.refl 0 w) h (Nat.zero_le _) (fun _ _ => Nat.zero_le _), fun k hk hn => h.block k hk fun e => hn e.symm⟩
def Stb {α : Type} (S : Nat -> Prop) (w : World) (sz : Nat) (P : α -> List Value -> Prop) (v : Value) (l : List α) : Prop :=
 ∃ a c, v = .slice a l.length c /\ l.length <= c /\ (l = [] \/ ∃ b o, a = some ⟨b, o, none⟩ /\ b < w.heap.size /\ ¬ S b /\ ∀ (k : Nat) (x : α), l[k]? = some x -> ∃ ys, P x ys /\ ∀ (j : Nat) (u : Value), ys[j]? = some u -> w.cell? ⟨b, o + k * sz + j, none⟩ = some u)
theorem Stb.row {α : Type} {S : Nat -> Prop} {w : World} {sz : Nat} {P : α -> List Value -> Prop} {v : Value} {l : List α} (h : Stb S w sz P v l) : RowX w sz P v l := by
 obtain ⟨a, c, h1, h2, h⟩ := h; refine ⟨a, c, h1, h2, ?_⟩
 rcases h with h | ⟨b, o, h3, h4, _, h5⟩
 · exact .inl h
 · exact .inr ⟨b, o, h3, h4, h5⟩
theorem cell_of_blk {w w' : World} {b k : Nat} (h : w'.heap[b]? = w.heap[b]?) : w'.cell? ⟨b, k, none⟩ = w.cell? ⟨b, k, none⟩ := by
 unfold World.cell?; simp only [h]
theorem Stb.on {α : Type} {S : Nat -> Prop} {w w' : World} {sz : Nat} {P P' : α -> List Value -> Prop} {v : Value} {l : List α} (h : Stb S w sz P v l) (hf : Fx S w w') (hp : ∀ x ys, P x ys -> P' x ys) : Stb S w' sz P' v l := by
 obtain ⟨a, c, h1, h2, h⟩ := h; refine ⟨a, c, h1, h2, ?_⟩
 rcases h with h | ⟨b, o, h3, h4, h5, h6⟩
 · exact .inl h
 · refine .inr ⟨b, o, h3, Nat.lt_of_lt_of_le h4 hf.size, h5, fun k x hk => ?_⟩
   obtain ⟨ys, p1, p2⟩ := h6 k x hk; exact ⟨ys, hp x ys p1, fun j u hj => (cell_of_blk (hf.blk b h4 h5)).trans (p2 j u hj)⟩
theorem Stb.sub {α : Type} {S S' : Nat -> Prop} {w : World} {sz : Nat} {P : α -> List Value -> Prop} {v : Value} {l : List α} (h : Stb S w sz P v l) (hs : ∀ k, k < w.heap.size -> S' k -> S k) : Stb S' w sz P v l := by
 obtain ⟨a, c, h1, h2, h⟩ := h; refine ⟨a, c, h1, h2, ?_⟩
 rcases h with h | ⟨b, o, h3, h4, h5, h6⟩
 · exact .inl h
 · exact .inr ⟨b, o, h3, h4, fun hx => h5 (hs b h4 hx), h6⟩
namespace Ow
section
variable {α : Type} {P : α -> List Value -> Prop} {sz base e : Nat} {w : World} {v : Value} {l : List α}
theorem run_app2s {Pr : Program} {t ty : TypeId} {i : TypeInfo} {n bytes : Nat} (ht : Pr.underlying t = some (.slice e)) (hi : Pr.info? e = some i) (hz : i.zero.map (fun z => z.cells.size) = some sz) (hsize : i.size = sz) (hby : i.bytes = bytes) (hsz : 0 < sz) (hs : Shp P sz)
 (ho : OwnX w base e sz P v l) {v2 : Value} {l2 : List α} (hr : RowX w sz P v2 l2) (h63 : l.length + l2.length <= 1000000) (hb2 : bytes <= 1000) (hbase : base <= w.heap.size) :
 ∃ v' w', (Builtin.append_ #[t, t] ty #[v, v2]).run Pr w = .ok v' w' /\ OwnX w' base e sz P v' (l ++ l2) /\ w.grownBy w' v.ownBlock /\ (v'.ownBlock = v.ownBlock \/ v'.ownBlock = some w.heap.size) := by
 cases hzz : i.zero with
 | none => rw [hzz] at hz; cases hz
 | some z =>
   rw [hzz] at hz; simp at hz; obtain ⟨a, c, rfl, hc, hr⟩ := hr; obtain ⟨news, hf, hown⟩ := ho
   have key : ∀ (ad : Addr) (news2 : List Value), Flat P l2 news2 -> (∀ j u, news2[j]? = some u -> w.cell? (ad.add j) = some u) -> ∃ v' w', (Builtin.append_ #[t, t] ty #[v, .slice (some ad) l2.length c]).run Pr w = .ok v' w' /\ OwnX w' base e sz P v' (l ++ l2) /\ w.grownBy w' v.ownBlock /\ (v'.ownBlock = v.ownBlock \/ v'.ownBlock = some w.heap.size) := by
    intro ad news2 hf2 hc2; have hbb : (l.length + l2.length) * bytes <= 1000000 * 1000 := Nat.mul_le_mul h63 hb2; obtain ⟨v', w', h1, h2, h3, _, h5⟩ := run_append_own_at (P := Pr) w base t ty e i z sz bytes ht hi hzz hsize hby hz hsz v l.length news hown ad l2.length c news2 (hf2.len hs) hc2 (hf2.ones hs) (by unfold maxLen; omega) (by omega) hbase
    exact ⟨v', w', h1, ⟨news ++ news2, hf.app hf2, by rw [List.length_append]; exact h2⟩, h3, h5⟩
   rcases hr with rfl | ⟨b, o, rfl, hlt, hx⟩
   · cases a with
     | some ad => exact key ad [] rfl (by intro j u hj; simp at hj)
     | none =>
       refine ⟨v, w, ?_, ⟨news, by simpa using hf, by simpa using hown⟩, ⟨rfl, rfl, rfl, Nat.le_refl _, fun _ _ _ => rfl⟩, .inl rfl⟩
       rcases hown.2 with ⟨rfl, _⟩ | ⟨g, cap, cur, rfl, _, _, hnc, _⟩
       · simp [Builtin.append_, run_underlying ht, sizeOf, typeInfo, hi, Builtin.lenOf, Builtin.firstCells, loadCells, loadCellsFrom]
       · simp [Builtin.append_, run_underlying ht, sizeOf, typeInfo, hi, Builtin.lenOf, Builtin.firstCells, loadCells, loadCellsFrom, hnc, storeCells]
   · obtain ⟨news2, hf2, hc2⟩ := flat_of hs l2 o hx
     exact key ⟨b, o, none⟩ news2 hf2 (fun j u hj => by rw [Go.WideShapes.add_plain]; exact hc2 j u hj)
theorem wpList_app2s {Pr : Program} {ops : Array Oper} {rest : List Oper} {o : Oper} {a : Act} {Q : Exit -> Act -> World -> Prop} (hgd : o.guard = none) (s x : Operand) (t : TypeId)
 (hop : o.op = .call { callee := .builtin .append, args := #[s, x], argTypes := #[t, t] }) {i : TypeInfo} {bytes : Nat}
 (ht : Pr.underlying t = some (.slice e)) (hi : Pr.info? e = some i) (hz : i.zero.map (fun z => z.cells.size) = some sz) (hsize : i.size = sz) (hby : i.bytes = bytes) (hsz : 0 < sz) (hs : Shp P sz)
 (hv : a.eval s = v) (ho : OwnX w base e sz P v l) {v2 : Value} {l2 : List α} (hv2 : a.eval x = v2) (hr : RowX w sz P v2 l2) (h63 : l.length + l2.length <= 1000000) (hb2 : bytes <= 1000) (hbase : base <= w.heap.size)
 (h : ∀ v' w', OwnX w' base e sz P v' (l ++ l2) -> w.grownBy w' v.ownBlock -> (v'.ownBlock = v.ownBlock \/ v'.ownBlock = some w.heap.size) -> wpList Pr ops Q rest (a.put o.dst v') w') : wpList Pr ops Q (o :: rest) a w := by
 refine wpList_plain hgd fun K hK => ?_; obtain ⟨v', w', hrun, h1, h2, h3⟩ := run_app2s (Pr := Pr) (t := t) (ty := o.type) (n := 0) ht hi hz hsize hby hsz hs ho hr h63 hb2 hbase; unfold Oper.wp execOp; simp only [hop, resolve, invoke, builtin, Sem.run_bind, Sem.run_pure, Result.andThen_ok, List.map_toArray, List.map_cons, List.map_nil, hv, hv2, hrun]; exact hK _ _ (h v' w' h1 h2 h3)
end
end Ow
theorem Fx.then {S T : Nat -> Prop} {a b c : World} (h : Fx S a b) (k : Fx T b c) (hs : ∀ x, x < a.heap.size -> T x -> S x) : Fx S a c :=
 ⟨h.bel.trans k.bel, fun i hi hn => (k.blk i (Nat.lt_of_lt_of_le hi h.size) fun hx => hn (hs i hi hx)).trans (h.blk i hi hn)⟩
theorem put_blk {w : World} {b k : Nat} {c : Array Value} {t : TypeId} (h : w.heap[b]? = some (.cells c t (0, 0))) (u : Value) : (w.setCell ⟨b, k, none⟩ u).heap[b]? = some (.cells (c.setIfInBounds k u) t (0, 0)) := by
 have hlt := Ow.lt_of_blk h; have h' : w.heap[b] = .cells c t (0, 0) := by simpa [Array.getElem?_eq_getElem hlt] using h
 show (w.heap.modify b _)[b]? = _; rw [Array.getElem?_eq_getElem (by simpa using hlt), Array.getElem_modify_self, h']
 rfl
theorem Ow.fzl_blk {w : World} {b : Nat} {c : Array Value} {t : TypeId} (h : w.heap[b]? = some (.cells c t (0, 0))) (o : Nat) : w.frozen? ⟨b, o, none⟩ = false := by
 unfold World.frozen?; rw [h]; simp
theorem Live.more {S : Nat -> Prop} {w w' : World} {l : List Nat} (h : Live w l) (hf : Fx S w w') (hs : ∀ x ∈ l, S x -> ∃ c, w'.heap[x]? = some (.cells c 141 (0, 0))) : Live w' l := fun x hx => by
 obtain ⟨c, hc⟩ := h x hx; by_cases hS : S x
 · exact hs x hx hS
 · exact ⟨c, (hf.blk x (Ow.lt_of_blk hc) hS).trans hc⟩
theorem mem_lookL {x : Nat} : ∀ (more acc : List Nat), x ∈ lookL acc more -> x ∈ acc \/ x ∈ more := by
 intro more
 induction more with
 | nil => intro acc h; exact .inl h
 | cons b r ih =>
   intro acc h; have h2 : lookL acc (b :: r) = lookL (if b ∈ acc then acc else acc ++ [b]) r := rfl
   rw [h2] at h
   rcases ih _ h with h | h
   · split at h
     · exact .inl h
     · rcases List.mem_append.1 h with h | h
       · exact .inl h
       · simp at h; subst h; exact .inr (by simp)
   · exact .inr (List.mem_cons_of_mem _ h)
def upC (cs : Array Value) (v : Value) : Array Value := cs.setIfInBounds 13 v
theorem upC_up (cs : Array Value) (u v : Value) : (upC cs u).setIfInBounds 13 v = upC cs v := by unfold upC; simp
theorem upC_at {cs : Array Value} (h : cs.size = 14) (v : Value) : (upC cs v)[13]? = some v := by unfold upC; simp [h]
theorem upC_self {cs : Array Value} {v : Value} (h : cs[13]? = some v) : upC cs v = cs := by
 unfold upC; apply Array.ext_getElem?; intro i; rw [Array.getElem?_setIfInBounds]
 split
 · next e => subst e; split
             · exact h.symm
             · next h2 => rw [Array.getElem?_eq_none (by omega)] at h; cases h
 · rfl
theorem lookAlso_any (S : Nat -> Prop) (l acc : List Nat) (b base : Nat) (cs : Array Value) (va v : Value) (w : World)
 (hb : w.heap[b]? = some (.cells cs 141 (0, 0))) (h14 : cs.size = 14) (h13 : cs[13]? = some va)
 (ho : Ow.OwnX w base 126 1 PtrX va acc) (hbase : base <= w.heap.size) (hSb : S b) (hSo : ∀ k, va.ownBlock = some k -> S k)
 (hr : Stb S w 1 PtrX v l) (hn : acc.length + l.length <= 1000) (hl : Live w (acc ++ l)) (hne : ∀ x ∈ acc ++ l, S x -> x = b) :
 Calls Tryz.prog 146 #[.pointer (some ⟨b, 0, none⟩), v] w fun e w' => e = .returned (.tuple #[]) /\ ∃ va', w'.heap[b]? = some (.cells (upC cs va') 141 (0, 0)) /\ Ow.OwnX w' base 126 1 PtrX va' (lookL acc l) /\ Fx S w w' /\
  (va'.ownBlock = va.ownBlock \/ ∃ q, w.heap.size <= q /\ va'.ownBlock = some q) := by
 have HR := hide hr; have HL := hide hl; have HNe := hide hne; have HSo := hide hSo; have HSb := hide hSb; have H14 := hide h14; obtain ⟨a, c, rfl, _⟩ := hr.row.len; obtain ⟨n, hn'⟩ : ∃ q, q = l.length := ⟨_, rfl⟩; have HN := hide hn'; rw [<- hn'] at HR ⊢; have HNm := hide hn; have hb0 : Hid (w.heap[b]? = some (.cells (upC cs va) 141 (0, 0))) := hide (by rw [upC_self h13]; exact hb)
 have hbl := Ow.lt_of_blk hb; have HO := hide ho; clear hr hl hne hn' hb h13 ho hSo hSb h14 hn; have hn1 : n <= 1000 := by have h1 := HNm.out; have h2 := HN.out; omega
 obtain ⟨j0, hj, hj0, hj1, hj2⟩ := Ow.info_of' Ow.i_tabp; go_enter Tryz.func146, Tryz.ntmps146; go_wp2_with fail
 go_loopw [8] (fun i wr => ∃ (k : Nat) (vk : Value), k <= n /\ i = .int .i64 k /\ Hid (wr.heap[b]? = some (.cells (upC cs vk) 141 (0, 0))) /\ Hid (Ow.OwnX wr base 126 1 PtrX vk (lookL acc (l.take k))) /\ Hid (Fx S w wr) /\ Hid (vk.ownBlock = va.ownBlock \/ ∃ q, w.heap.size <= q /\ vk.ownBlock = some q)) (fun i _ => n - (intOf i).toNat)
 case atStart => exact ⟨0, va, Nat.zero_le _, rfl, hb0, HO, hide (Fx.refl _ _), hide (.inl rfl)⟩
 case round =>
  obtain ⟨k, vk, hk, rfl, HBk, HOk, HF, HQ⟩ := hrel; obtain ⟨ka, kc, ek⟩ := HOk.out.shape; obtain ⟨ln, hln⟩ : ∃ q, q = (lookL acc (l.take k)).length := ⟨_, rfl⟩; rw [<- hln] at ek; subst ek; have HLn := hide hln; clear hln; have HLk : Hid ((lookL acc (l.take k)).length <= 1000) := hide (by have h1 := lookL_len acc (l.take k); have h2 := HNm.out; rw [List.length_take] at h1; omega)
  have HLv : Hid (Live wr (acc ++ l)) := hide (HL.out.more HF.out fun x hx hs => by rw [HNe.out x hx hs]; exact ⟨_, HBk.out⟩)
  by_cases hlt : k < n
  · obtain ⟨x, hx⟩ : ∃ x, l[k]? = some x := ⟨l[k]'(by rw [<- HN.out]; exact hlt), List.getElem?_eq_getElem _⟩
    have HRr := (HR.out.on HF.out fun _ _ h => h).row; rw [HN.out] at HRr; obtain ⟨g, o, eg, ys, wf, hc⟩ := Ow.row_at' HRr hx; subst eg; have hwf : ys = [.pointer (some ⟨x, 0, none⟩)] := wf; subst hwf; have r0 := hc wr (Below.refl _ _) 0 _ rfl; rw [Nat.add_zero, Nat.mul_one] at r0; have HX := hide hx; have c13 : wr.cell? ⟨b, 13, none⟩ = some (.slice ka ln kc) := (cell_box HBk.out 13).trans (upC_at H14.out _); have hlt' : (k : Int) < (n : Int) := by omega
    have HT := hide (hasT_any (lookL acc (l.take k)) x (.slice ka ln kc) wr (HOk.out.row shp_ptr fun _ _ h => h) HLk.out (by
     intro y hy
     rcases List.mem_cons.1 hy with rfl | hy
     · exact HLv.out _ (List.mem_append.2 (.inr (List.mem_of_getElem? HX.out)))
     · rcases mem_lookL _ _ hy with hy | hy
       · exact HLv.out _ (List.mem_append.2 (.inl hy))
       · exact HLv.out _ (List.mem_append.2 (.inr (List.mem_of_mem_take hy)))))
    clear hc wf hx HRr; by_cases hin : x ∈ lookL acc (l.take k)
    · rw [decide_eq_true hin] at HT
      have HTk : Hid (lookL acc (l.take (k + 1)) = lookL acc (l.take k)) := hide (by rw [List.take_add_one, HX.out]; exact (lookL_snoc _ _ _).trans (if_pos hin))
      clear hin; go_wp2_with fail; refine HT.out.mono ?_; rintro e w1 ⟨rfl, hw1⟩; have hw1' := hw1.symm; subst hw1'; clear HT hw1; go_wp2_with fail
      go_roundw
      case rel => exact ⟨k + 1, _, by omega, by go_num, HBk, by rw [HTk.out]; exact HOk, HF, HQ⟩
      case measure => simp [intOf]; omega
    · rw [decide_eq_false hin] at HT
      have HTk : Hid (lookL acc (l.take (k + 1)) = lookL acc (l.take k) ++ [x]) := hide (by rw [List.take_add_one, HX.out]; exact (lookL_snoc _ _ _).trans (if_neg hin))
      have hA : Below wr.heap.size wr (wr.alloc (.cells #[.pointer (some ⟨x, 0, none⟩)] 126)) := (Below.refl _ _).alloc (Nat.le_refl _) _; have HR2 : Hid (RowX (wr.alloc (.cells #[.pointer (some ⟨x, 0, none⟩)] 126)) 1 PtrX (.slice (some ⟨wr.heap.size, 0, none⟩) 1 1) [x]) := hide (Ow.row_one' (P := PtrX) (x := x) (ys := [.pointer (some ⟨x, 0, none⟩)]) rfl); have HO2 := hide (HOk.out.on hA fun _ _ h => h); have hbr := Ow.lt_of_blk HBk.out; have HB2 : Hid ((wr.alloc (.cells #[.pointer (some ⟨x, 0, none⟩)] 126)).heap[b]? = some (.cells (upC cs (.slice ka ln kc)) 141 (0, 0))) := hide ((hA.block b hbr).trans HBk.out); have HS2 : Hid (base <= (wr.alloc (.cells #[.pointer (some ⟨x, 0, none⟩)] 126)).heap.size) := hide (by have := HF.out.size; have := hA.size; omega)
      have HF2 : Hid (Fx S w (wr.alloc (.cells #[.pointer (some ⟨x, 0, none⟩)] 126))) := hide (HF.out.trans (Fx.below hA)); have hll : (lookL acc (l.take k)).length <= 1000 := HLk.out; clear hin hA hbr; go_wp2_with fail; refine HT.out.mono ?_; rintro e w1 ⟨rfl, hw1⟩; have hw1' := hw1.symm; subst hw1'; clear HT hw1
      go_wp2_with (at_builtin; refine Ow.wpList_app2s rfl (.tmp 23) (.tmp 25) 104 rfl Tryz.underlying104 hj hj0 hj1 hj2 (by decide) shp_ptr (by first | rfl | simp [Act.eval, Act.put]) HO2.out (by first | rfl | simp [Act.eval, Act.put]) HR2.out (by simp; omega) (by decide) HS2.out ?_)
      intro v5 w5 ho5 hg5 hq5
      have HQ5 : Hid (v5.ownBlock = va.ownBlock \/ ∃ q, w.heap.size <= q /\ v5.ownBlock = some q) := hide (by
       rcases hq5 with h | h
       · rcases HQ.out with h2 | ⟨q, h2, h3⟩
         · exact .inl (h.trans h2)
         · exact .inr ⟨q, h2, h.trans h3⟩
       · refine .inr ⟨_, ?_, h⟩
         have h2 := HF.out.size
         omega)
      have HF5 : Hid (Fx S w w5) := hide (HF2.out.then (Fx.grown hg5) (by
       intro y hy h
       rcases HQ.out with h2 | ⟨q, h2, h3⟩
       · exact HSo.out y (h2.symm.trans h)
       · rw [h3] at h; injection h with h; omega))
      have HB5 : Hid (w5.heap[b]? = some (.cells (upC cs (.slice ka ln kc)) 141 (0, 0))) := hide ((hg5.block b (Ow.lt_of_blk HB2.out) (fun h => by
       obtain ⟨nw, _, hown⟩ := HO2.out; obtain ⟨cc, hcc⟩ := Ow.own_at hown _ h.symm; rw [HB2.out] at hcc
       cases hcc)).trans HB2.out)
      have HO5 := hide ho5; clear ho5 hg5 hq5 HO2 HR2 HB2 HS2 HF2; obtain ⟨xa, xc, rfl⟩ := HO5.out.shape; have hlen : (lookL acc (l.take k) ++ [x]).length = (lookL acc (l.take k)).length + 1 := by simp
      rw [hlen] at HQ5 HO5; clear hlen; have c5 : w5.cell? ⟨b, 13, none⟩ = some (.slice ka ln kc) := (cell_box HB5.out 13).trans (upC_at H14.out _); have z5 : w5.frozen? ⟨b, 13, none⟩ = false := Ow.fzl_blk HB5.out 13; go_wp2_with fail
      go_roundw
      case rel =>
       refine ⟨k + 1, .slice xa ((lookL acc (l.take k)).length + 1) xc, by omega, by go_num, hide (by rw [<- upC_up]; exact put_blk HB5.out _), ?_, hide (HF5.out.trans (Fx.set HSb.out _)), HQ5⟩
       rw [HTk.out]
       exact hide (HO5.out.keep (fun _ _ h => h) fun i c hi => (Below.heap_setCell w5 ⟨b, 13, none⟩ _ i (fun e => by
        have e : i = b := e; rw [e, HB5.out] at hi
        cases hi)).trans hi)
      case measure => simp [intOf]; omega
  · have hnl : ¬ ((k : Int) < (n : Int)) := by omega
    have HTl : Hid (lookL acc (l.take k) = lookL acc l) := hide (by rw [List.take_of_length_le (by rw [<- HN.out]; omega)])
    go_wp2_with fail; exact bodyPost_end (v := .tuple #[]) (by simp [results, Tryz.results146, go_sem]) rfl ⟨rfl, _, HBk.out, by rw [<- HTl.out]; exact HOk.out, HF.out, HQ.out⟩
theorem i_slotZ : (Tryz.prog.info? 89).map (fun i => (i.zero.map (fun z => z.cells.size), i.size, i.bytes)) = some (some 4, 4, 56) := by kernel_rfl
theorem sgrow_any (n : Nat) (w : World) (hn : n <= 1000000) :
 Calls Tryz.prog 162 #[.slice none 0 0, .int .i64 n] w fun e w' => ∃ v, e = .returned v /\ Ow.OwnX w' w.heap.size 89 4 SltX v [] /\ Below w.heap.size w w' := by
 obtain ⟨i0, hi0, hz0, hs0, hb0⟩ := Ow.info_of' i_slotZ
 obtain ⟨z, hz, hzc⟩ : ∃ z, i0.zero = some z /\ z.cells.size = 4 := by
  cases h : i0.zero with
  | none => rw [h] at hz0; cases hz0
  | some z => rw [h] at hz0; exact ⟨z, rfl, by simpa using hz0⟩
 by_cases h0 : n = 0
 · subst h0
   go_enter Tryz.func162, Tryz.ntmps162; go_wp2; go_ret; exact ⟨_, rfl, Ow.OwnX.nil _ _ _ _ _, Below.refl _ _⟩
 · have hrz : ∀ ty, (Builtin.append_ #[86, 3] ty #[.slice none 0 0, .int .i64 n]).run Tryz.prog w =
    .ok (.slice (some ⟨w.heap.size, 0, none⟩) n (grownCap w n 0 89)) (w.drew.alloc (.cells (Builtin.zeroCells z.cells n ++ Builtin.zeroCells z.cells (grownCap w n 0 89 - n)) 89)) := fun ty => by
    have h := Go.Lib.run_append_grow_zeros (P := Tryz.prog) w 86 3 ty 89 i0 z .i64 .i64 Tryz.underlying86 Tryz.underlying3 hi0 hz none 0 0 [] (run_firstCells_none w.drew i0.size 0 0 0) n (by omega) (by omega) (by omega) (by omega) (by rw [hb0]; omega) (by rw [hb0]; exact growslice_fits (by omega) (by omega))
    simpa using h
   obtain ⟨zc, hzq⟩ : ∃ q, q = z.cells := ⟨_, rfl⟩; rw [<- hzq] at hrz hzc; clear hzq; have hGn : n <= grownCap w n 0 89 := grownCap_ge w _ _ _; obtain ⟨G, hG⟩ : ∃ G, G = grownCap w n 0 89 := ⟨_, rfl⟩; rw [<- hG] at hrz hGn
   have hGl : G <= maxLen := by
    have := grownCap_le_maxLen w n 0 89 (by unfold maxLen; omega)
    rwa [<- hG] at this
   have hG63 : G <= 9223372036854775807 := by unfold maxLen at hGl; omega
   have h4 : (n : Int) > 0 := by omega
   clear hG; go_enter Tryz.func162, Tryz.ntmps162
   go_wp2_with (at_builtin; refine Go.Lib.wpList_append_run _ rfl _ _ _ _ rfl _ _ rfl rfl _ _ (hrz _) ?_)
   go_ret; refine ⟨_, rfl, ⟨[], rfl, rfl, .inr ⟨_, G, _, rfl, Nat.le_refl _, heap_alloc_new w _, Nat.zero_le _, hGl, ?_, rfl⟩⟩, ((Below.refl _ _).alloc (Nat.le_refl _) _).drew⟩; rw [Array.size_append, size_zeroCells, size_zeroCells, hzc, <- Nat.add_mul]
   congr 1
   omega
theorem concat_any (g o c : Nat) (v1 v2 : Value) (l1 l2 : List Pp.Slt) (w : World) (h1 : RowX w 4 SltX v1 l1) (h2 : RowX w 4 SltX v2 l2) (c1 : w.cell? ⟨g, o, none⟩ = some v1) (c2 : w.cell? ⟨g, o + 1, none⟩ = some v2) (hg : g < w.heap.size) (hn : l1.length + l2.length <= 1000000) :
 Calls Tryz.prog 157 #[.slice (some ⟨g, o, none⟩) 2 c] w fun e w' => ∃ v, e = .returned v /\ Ow.OwnX w' w.heap.size 89 4 SltX v (l1 ++ l2) /\ Below w.heap.size w w' := by
 have HR1 := hide h1; have HR2 := hide h2; obtain ⟨a1, k1, rfl, _⟩ := h1.len; obtain ⟨a2, k2, rfl, _⟩ := h2.len; clear h1 h2; obtain ⟨n1, hn1⟩ : ∃ q, q = l1.length := ⟨_, rfl⟩; obtain ⟨n2, hn2⟩ : ∃ q, q = l2.length := ⟨_, rfl⟩; have HN1 := hide hn1; have HN2 := hide hn2; rw [<- hn1] at HR1 c1 hn; rw [<- hn2] at HR2 c2 hn; clear hn1 hn2; have HC1 : Hid (∀ wx, Below w.heap.size w wx -> wx.cell? ⟨g, o, none⟩ = some (.slice a1 n1 k1)) := hide fun wx hb => (hb.cell hg).trans c1; have HC2 : Hid (∀ wx, Below w.heap.size w wx -> wx.cell? ⟨g, o + 1, none⟩ = some (.slice a2 n2 k2)) := hide fun wx hb => (hb.cell hg).trans c2; obtain ⟨j0, hj, hj0, hj1, hj2⟩ := Ow.info_of' Ow.i_slot; have hG := hide (sgrow_any (n1 + n2) w hn); go_enter Tryz.func157, Tryz.ntmps157; go_wp2_with fail
 go_loop [3, 11] (fun s i => (i = .int .i64 0 /\ s = .int .i64 0) \/ (i = .int .i64 1 /\ s = .int .i64 n1) \/ (i = .int .i64 2 /\ s = .int .i64 ((n1 + n2 : Nat) : Int))) (fun _ i => 2 - (intOf i).toNat)
 case atStart => exact .inl ⟨rfl, rfl⟩
 case round =>
  rcases hrel with ⟨rfl, rfl⟩ | ⟨rfl, rfl⟩ | ⟨rfl, rfl⟩
  · have b1 := HC1.out w (Below.refl _ _)
    go_wp2_with fail
    go_round
    case rel => exact .inr (.inl ⟨by go_num, by go_num⟩)
    case measure => simp [intOf]
  · have b1 := HC2.out w (Below.refl _ _)
    go_wp2_with fail
    go_round
    case rel => exact .inr (.inr ⟨by go_num, by go_num⟩)
    case measure => simp [intOf]
  · go_wp2_with fail
    refine hG.out.mono ?_; rintro e w1 ⟨v0, rfl, ho0, hb0⟩; have HO0 := hide ho0; have HB0 := hide hb0; clear hG ho0 hb0; obtain ⟨xa, xc, rfl⟩ := HO0.out.shape; go_wp2_with fail
    go_loopw [6, 27] (fun v i wr => Hid (Below w.heap.size w wr) /\ ((i = .int .i64 0 /\ Hid (Ow.OwnX wr w.heap.size 89 4 SltX v [])) \/ (i = .int .i64 1 /\ Hid (Ow.OwnX wr w.heap.size 89 4 SltX v l1)) \/ (i = .int .i64 2 /\ Hid (Ow.OwnX wr w.heap.size 89 4 SltX v (l1 ++ l2))))) (fun _ i _ => 2 - (intOf i).toNat)
    case atStart => exact ⟨HB0, .inl ⟨rfl, HO0⟩⟩
    case round =>
     obtain ⟨HBr, hrel⟩ := hrel
     rcases hrel with ⟨rfl, HO⟩ | ⟨rfl, HO⟩ | ⟨rfl, HO⟩
     · have b1 := HC1.out wr HBr.out
       have HRo : Hid (RowX wr 4 SltX _ _) := hide (HR1.out.on HBr.out fun _ _ h => h); obtain ⟨va, vc, rfl⟩ := HO.out.shape; have hsz := HBr.out.size; have hbd : ([] : List Pp.Slt).length + l1.length <= 1000000 := by have e1 := HN1.out; simp; omega
       go_wp2_with (at_builtin; refine Ow.wpList_app rfl (.tmp 31) (.tmp 32) 86 rfl Tryz.underlying86 hj hj0 hj1 hj2 (by decide) shp_slt (by first | rfl | simp [Act.eval, Act.put]) HO.out (by first | rfl | simp [Act.eval, Act.put]) HRo.out hbd (by decide) hsz ?_)
       intro v5 w5 ho5 hg5; have HB5 := hide (HBr.out.trans (Ow.bel_grown HO.out hsz hg5)); have HO5 := hide ho5; clear ho5 hg5 HO HRo HBr b1; obtain ⟨ya, yc, rfl⟩ := HO5.out.shape; go_wp2_with fail
       go_roundw
       case rel => exact ⟨HB5, .inr (.inl ⟨by go_num, HO5⟩)⟩
       case measure => simp [intOf]
     · have b1 := HC2.out wr HBr.out
       have HRo : Hid (RowX wr 4 SltX _ _) := hide (HR2.out.on HBr.out fun _ _ h => h); obtain ⟨va, vc, rfl⟩ := HO.out.shape; have hsz := HBr.out.size; have hbd : l1.length + l2.length <= 1000000 := by have e1 := HN1.out; have e2 := HN2.out; omega
       go_wp2_with (at_builtin; refine Ow.wpList_app rfl (.tmp 31) (.tmp 32) 86 rfl Tryz.underlying86 hj hj0 hj1 hj2 (by decide) shp_slt (by first | rfl | simp [Act.eval, Act.put]) HO.out (by first | rfl | simp [Act.eval, Act.put]) HRo.out hbd (by decide) hsz ?_)
       intro v5 w5 ho5 hg5; have HB5 := hide (HBr.out.trans (Ow.bel_grown HO.out hsz hg5)); have HO5 := hide ho5; clear ho5 hg5 HO HRo HBr b1; obtain ⟨ya, yc, rfl⟩ := HO5.out.shape; go_wp2_with fail
       go_roundw
       case rel => exact ⟨HB5, .inr (.inr ⟨by go_num, HO5⟩)⟩
       case measure => simp [intOf]
     · obtain ⟨va, vc, rfl⟩ := HO.out.shape
       go_wp2_with fail; go_ret; exact ⟨_, rfl, HO.out, HBr.out⟩
namespace Ow
theorem OwnX.putb {α : Type} {P : α -> List Value -> Prop} {w : World} {base e sz b k : Nat} {v u : Value} {l : List α} {cs : Array Value} {t : TypeId} (h : OwnX w base e sz P v l) (hb : w.heap[b]? = some (.cells cs t (0, 0))) (ht : t ≠ e) : OwnX (w.setCell ⟨b, k, none⟩ u) base e sz P v l :=
 h.keep (fun _ _ h => h) fun i c hi => (Below.heap_setCell w ⟨b, k, none⟩ u i (fun x => by
  have x : i = b := x; rw [x, hb] at hi; injection hi with hi; injection hi with _ h2 _
  exact ht h2)).trans hi
theorem OwnX.fx {α : Type} {P : α -> List Value -> Prop} {S : Nat -> Prop} {w w' : World} {base e sz : Nat} {v : Value} {l : List α} (h : OwnX w base e sz P v l) (hf : Fx S w w') (hs : ∀ (k : Nat) (c : Array Value), w.heap[k]? = some (.cells c e (0, 0)) -> ¬ S k) : OwnX w' base e sz P v l :=
 h.keep (fun _ _ h => h) fun i c hi => (hf.blk i (lt_of_blk hi) (hs i c hi)).trans hi
theorem step_app2 {α : Type} {P : α -> List Value -> Prop} {sz base e : Nat} {w : World} {v : Value} {l : List α} {Pr : Program} {ops : Array Oper} {o : Oper} {a : Act} {K : Act -> World -> Prop} {Q : Exit -> Act -> World -> Prop} {E : Prop} (hgd : o.guard = none) (s x : Operand) (t : TypeId)
 (hop : o.op = .call { callee := .builtin .append, args := #[s, x], argTypes := #[t, t] }) {i : TypeInfo} {bytes : Nat}
 (ht : Pr.underlying t = some (.slice e)) (hi : Pr.info? e = some i) (hz : i.zero.map (fun z => z.cells.size) = some sz) (hsize : i.size = sz) (hby : i.bytes = bytes) (hsz : 0 < sz) (hs : Shp P sz)
 (hv : a.eval s = v) (ho : OwnX w base e sz P v l) {v2 : Value} {l2 : List α} (hv2 : a.eval x = v2) (hr : RowX w sz P v2 l2) (h63 : l.length + l2.length <= 1000000) (hb2 : bytes <= 1000) (hbase : base <= w.heap.size)
 (h : ∀ v' w', OwnX w' base e sz P v' (l ++ l2) -> w.grownBy w' v.ownBlock -> (v'.ownBlock = v.ownBlock \/ v'.ownBlock = some w.heap.size) -> K (a.put o.dst v') w') :
 if Region.wanted o (yielded ops a.tmps) = true then Oper.wp Pr o a w K Q else E := by
 have hw : Region.wanted o (yielded ops a.tmps) = true := by simp [Region.wanted, hgd]
 rw [if_pos hw]; obtain ⟨v', w', hrun, h1, h2, h3⟩ := run_app2s (Pr := Pr) (t := t) (ty := o.type) (n := 0) ht hi hz hsize hby hsz hs ho hr h63 hb2 hbase; unfold Oper.wp execOp; simp only [hop, resolve, invoke, builtin, Sem.run_bind, Sem.run_pure, Result.andThen_ok, List.map_toArray, List.map_cons, List.map_nil, hv, hv2, hrun]; exact h v' w' h1 h2 h3
theorem i_own' : (Tryz.prog.info? 153).map (fun i => (i.zero.map (fun z => z.cells.size), i.size, i.bytes)) = some (some 10, 10, 144) := by kernel_rfl
end Ow
def Moved (w : World) (v v' : Value) : Prop := v'.ownBlock = v.ownBlock \/ ∃ q, w.heap.size <= q /\ v'.ownBlock = some q
def listC (cs : Array Value) (vs vm va : Value) : Array Value := ((cs.setIfInBounds 11 vs).setIfInBounds 12 vm).setIfInBounds 13 va
theorem inherit_any {α : Type} (PM : α -> List Value -> Prop) (hPM : Ow.Shp PM 10) (S : Nat -> Prop) (b s base : Nat) (cs ds : Array Value) (vs vm va us um ua : Value) (ls ks : List Pp.Slt) (lm km : List α) (la ka : List Nat) (w : World)
 (hb : w.heap[b]? = some (.cells cs 141 (0, 0))) (h14 : cs.size = 14) (b11 : cs[11]? = some vs) (b12 : cs[12]? = some vm) (b13 : cs[13]? = some va)
 (hs : w.heap[s]? = some (.cells ds 141 (0, 0))) (d11 : ds[11]? = some us) (d12 : ds[12]? = some um) (d13 : ds[13]? = some ua) (hns : ¬ S s)
 (hvs : RowX w 4 SltX vs ls) (hvm : Ow.OwnX w base 153 10 PM vm lm) (hva : Ow.OwnX w base 126 1 PtrX va la)
 (hus : RowX w 4 SltX us ks) (hum : Stb S w 10 PM um km) (hua : Stb S w 1 PtrX ua ka) (hbase : base <= w.heap.size)
 (hSb : S b) (hSm : ∀ k, vm.ownBlock = some k -> S k) (hSa : ∀ k, va.ownBlock = some k -> S k)
 (n1 : ks.length + ls.length <= 1000000) (n2 : lm.length + km.length <= 1000000) (n3 : la.length + ka.length <= 1000)
 (hl : Live w (la ++ ka)) (hx : ∀ x ∈ la ++ ka, S x -> x = b) :
 Calls Tryz.prog 147 #[.pointer (some ⟨b, 0, none⟩), .pointer (some ⟨s, 0, none⟩)] w fun e w' => e = .returned (.tuple #[]) /\ ∃ vs' vm' va', w'.heap[b]? = some (.cells (listC cs vs' vm' va') 141 (0, 0)) /\
  Ow.OwnX w' w.heap.size 89 4 SltX vs' (ks ++ ls) /\ Ow.OwnX w' base 153 10 PM vm' (lm ++ km) /\ Ow.OwnX w' base 126 1 PtrX va' (lookL la ka) /\ Fx S w w' /\ Moved w vm vm' /\ Moved w va va' := by
 have HB := hide hb; have HS := hide hs; have c11 : w.cell? ⟨b, 11, none⟩ = some vs := (cell_box hb 11).trans b11; have e11 : w.cell? ⟨s, 11, none⟩ = some us := (cell_box hs 11).trans d11; have hkb := Ow.lt_of_blk hb; have hks := Ow.lt_of_blk hs; have hA : Below w.heap.size w (w.alloc (.cells #[us, vs] 86)).drew := ((Below.refl _ _).alloc (Nat.le_refl _) _).drew; have hA0 : (w.alloc (.cells #[us, vs] 86)).drew.heap[w.heap.size]? = some (.cells #[us, vs] 86 (0, 0)) := heap_alloc_new w _; have hcon := concat_any w.heap.size 0 2 us vs ks ls (w.alloc (.cells #[us, vs] 86)).drew (hus.on hA fun _ _ h => h) (hvs.on hA fun _ _ h => h) (cell_box hA0 0) (cell_box hA0 1) (Ow.lt_of_blk hA0) n1
 have HCon : Hid (Calls Tryz.prog 157 #[.slice (some ⟨w.heap.size, 0, none⟩) 2 2] (w.alloc (.cells #[us, vs] 86)).drew fun e w' => ∃ v, e = .returned v /\ Ow.OwnX w' w.heap.size 89 4 SltX v (ks ++ ls) /\ Below w.heap.size w w') := hide (hcon.mono fun e w' h => by
  obtain ⟨v, h1, h2, h3⟩ := h
  exact ⟨v, h1, h2.low hA.size fun _ _ h => h, hA.trans (h3.mono hA.size)⟩)
 have HVM := hide hvm; have HVA := hide hva; have HUM := hide hum; have HUA := hide hua; have HSb := hide hSb; have HSm := hide hSm; have HSa := hide hSa; have HL := hide hl; have HX := hide hx; have HB14 := hide (And.intro h14 (And.intro b12 b13)); have HD := hide (And.intro d12 d13); have HNs := hide hns; have hne : s ≠ b := fun e => hns (e ▸ hSb); have HB11 := hide b11; have HN2 := hide n2; have HN3 := hide n3; obtain ⟨sa, sc, rfl, _⟩ := hvs.len; obtain ⟨ta, tc, rfl, _⟩ := hus.len; clear hb hs h14 b11 b12 b13 d11 d12 d13 hns hvs hvm hva hus hum hua hSb hSm hSa hl hx hA hA0 hcon n1 n2 n3; obtain ⟨nk, hnk⟩ : ∃ q, q = ks.length := ⟨_, rfl⟩; obtain ⟨nl, hnl⟩ : ∃ q, q = ls.length := ⟨_, rfl⟩; rw [<- hnk] at HCon e11; rw [<- hnl] at HCon c11 HB11; clear hnk hnl; obtain ⟨j0, hj, hj0, hj1, hj2⟩ := Ow.info_of' Ow.i_own'; go_enter Tryz.func147, Tryz.ntmps147; go_wp2_with fail
 go_region_law (first
  | (go_simp
     refine HCon.out.mono ?_; rintro e w9 ⟨v9, rfl, ho9, hb9⟩; have HO9 := hide ho9; have HB9 := hide hb9; clear ho9 hb9 HCon; have c9 : w9.cell? ⟨b, 11, none⟩ = some (.slice sa nl sc) := (HB9.out.cell hkb).trans c11; have z9 : w9.frozen? ⟨b, 11, none⟩ = false := Ow.fzl_blk ((HB9.out.block b hkb).trans HB.out) 11; obtain ⟨ya, yc, hv9⟩ := HO9.out.shape; obtain ⟨n9, hn9⟩ : ∃ q, q = (ks ++ ls).length := ⟨_, rfl⟩; rw [<- hn9] at hv9; clear hn9
     subst hv9))
 all_goals
  have HFa : Hid (Fx S w (w9.setCell ⟨b, 11, none⟩ (.slice ya n9 yc))) := hide ((Fx.below HB9.out).trans (Fx.set HSb.out _)); have hb9 := (HB9.out.block b hkb).trans HB.out; have hs9 := (HB9.out.block s hks).trans HS.out; have HBa : Hid ((w9.setCell ⟨b, 11, none⟩ (.slice ya n9 yc)).heap[b]? = some (.cells (cs.setIfInBounds 11 (.slice ya n9 yc)) 141 (0, 0))) := hide (put_blk hb9 _); have HSc : Hid ((w9.setCell ⟨b, 11, none⟩ (.slice ya n9 yc)).heap[s]? = some (.cells ds 141 (0, 0))) := hide ((Below.heap_setCell w9 ⟨b, 11, none⟩ _ s hne).trans hs9); have HOa := hide (HO9.out.putb (k := 11) (u := .slice ya n9 yc) hb9 (by decide))
  have HVMa := hide ((HVM.out.on HB9.out fun _ _ h => h).putb (k := 11) (u := .slice ya n9 yc) hb9 (by decide))
  have HVAa := hide ((HVA.out.on HB9.out fun _ _ h => h).putb (k := 11) (u := .slice ya n9 yc) hb9 (by decide))
  clear hb9 hs9 HVM HVA HO9 HB9 HB HS c9 z9 c11 e11
 all_goals
  generalize w9.setCell ⟨b, 11, none⟩ (.slice ya n9 yc) = w10 at *
  obtain ⟨c10, hc10⟩ : ∃ q, q = cs.setIfInBounds 11 (.slice ya n9 yc) := ⟨_, rfl⟩; have HC10 := hide hc10; rw [<- hc10] at HBa; have h12 : c10[12]? = some vm := by rw [hc10]; simp [HB14.out.2.1]
  have h13 : c10[13]? = some va := by rw [hc10]; simp [HB14.out.2.2]
  have H13 : Hid (c10[13]? = some va /\ c10.size = 14) := hide ⟨h13, by rw [hc10]; simp [HB14.out.1]⟩
  have r12 := (cell_box HBa.out 12).trans h12; have s12 := (cell_box HSc.out 12).trans HD.out.1; have HRm : Hid (RowX w10.drew 10 PM um km) := hide ((HUM.out.on HFa.out fun _ _ h => h).row.on (Below.drew (Below.refl _ _)) fun _ _ h => h); have HVMd : Hid (Ow.OwnX w10.drew base 153 10 PM vm lm) := hide (HVMa.out.on (Below.drew (Below.refl _ _)) fun _ _ h => h); have hbz : base <= w10.drew.heap.size := Nat.le_trans hbase HFa.out.size; obtain ⟨ma, mc, hvm'⟩ := HVMd.out.shape; obtain ⟨pa, pc, hum', _⟩ := HRm.out.len; obtain ⟨nm, hnm⟩ : ∃ q, q = lm.length := ⟨_, rfl⟩; obtain ⟨np, hnp⟩ : ∃ q, q = km.length := ⟨_, rfl⟩; rw [<- hnm] at hvm'; rw [<- hnp] at hum'; have HNb := hide (And.intro hnm hnp); subst hvm' hum'; have hn2 := HN2.out; clear hnm hnp hc10 h12 h13; go_wp2_with fail
  go_region_law (first
   | (refine Ow.step_app2 rfl (.tmp 21) (.tmp 25) 139 rfl Tryz.underlying139 hj hj0 hj1 hj2 (by decide) hPM (by first | rfl | simp [Act.eval, Act.put]) HVMd.out (by first | rfl | simp [Act.eval, Act.put]) HRm.out hn2 (by decide) hbz ?_
      intro v11 w11 ho11 hg11 hq11; have HO11 := hide ho11; have HG11 := hide hg11; have HQ11 := hide hq11
      have HB11x : Hid (w11.heap[b]? = some (.cells c10 141 (0, 0))) := hide ((hg11.block b (Ow.lt_of_blk HBa.out) (fun h => by
       obtain ⟨nw, _, hown⟩ := HVMd.out; obtain ⟨cc, hcc⟩ := Ow.own_at hown _ h.symm; have hcc : w10.heap[b]? = some (.cells cc 153 (0, 0)) := hcc; rw [HBa.out] at hcc
       cases hcc)).trans HBa.out)
      clear ho11 hg11 hq11
      have c11 : w11.cell? ⟨b, 12, none⟩ = some (.slice ma nm mc) := by
       rw [<- r12, cell_box HB11x.out 12, cell_box HBa.out 12]
      have z11 : w11.frozen? ⟨b, 12, none⟩ = false := Ow.fzl_blk HB11x.out 12; obtain ⟨xa, xc, hv11⟩ := HO11.out.shape; obtain ⟨n11, hn11⟩ : ∃ q, q = (lm ++ km).length := ⟨_, rfl⟩; rw [<- hn11] at hv11; clear hn11
      subst hv11))
 all_goals
  have hkm := Ow.kx_grown HVMd.out HG11.out; have hne2 : ¬ (some s = (Value.slice ma nm mc).ownBlock) := fun h => HNs.out (HSm.out s h.symm); have HFb : Hid (Fx S w (w11.setCell ⟨b, 12, none⟩ (.slice xa n11 xc))) := hide (((HFa.out.trans (Fx.below (Below.drew (Below.refl _ _)))).trans ((Fx.grown HG11.out).mono fun k _ h => HSm.out k h)).trans (Fx.set HSb.out _)); have HBb : Hid ((w11.setCell ⟨b, 12, none⟩ (.slice xa n11 xc)).heap[b]? = some (.cells (c10.setIfInBounds 12 (.slice xa n11 xc)) 141 (0, 0))) := hide (put_blk HB11x.out _); have HSd : Hid ((w11.setCell ⟨b, 12, none⟩ (.slice xa n11 xc)).heap[s]? = some (.cells ds 141 (0, 0))) := hide ((Below.heap_setCell w11 ⟨b, 12, none⟩ _ s hne).trans ((HG11.out.block s (Ow.lt_of_blk HSc.out) hne2).trans HSc.out)); have HOb := hide (((HOa.out.on (Below.drew (Below.refl _ _)) fun _ _ h => h).kx hkm (by decide) fun _ _ h => h).putb (k := 12) (u := .slice xa n11 xc) HB11x.out (by decide))
  have HVAb := hide (((HVAa.out.on (Below.drew (Below.refl _ _)) fun _ _ h => h).kx hkm (by decide) fun _ _ h => h).putb (k := 12) (u := .slice xa n11 xc) HB11x.out (by decide))
  have HVMb := hide (HO11.out.putb (k := 12) (u := .slice xa n11 xc) HB11x.out (by decide))
  have HMv : Hid (Moved w (.slice ma nm mc) (.slice xa n11 xc)) := hide (by
   rcases HQ11.out with h | h
   · exact .inl h
   · exact .inr ⟨_, HFa.out.size, h⟩)
  clear hkm hne2 HO11 HG11 HQ11 HB11x c11 z11 HVMd HOa HVAa HVMa HBa HSc HRm hbz r12 s12
 all_goals
  generalize w11.setCell ⟨b, 12, none⟩ (.slice xa n11 xc) = w12 at *
  have s13 := (cell_box HSd.out 13).trans HD.out.2; have hbz : base <= w12.heap.size := Nat.le_trans hbase HFb.out.size
  have HLk := hide (lookAlso_any (fun k => k = b \/ va.ownBlock = some k) ka la b base (c10.setIfInBounds 12 (.slice xa n11 xc)) va ua w12 HBb.out (by simp [H13.out.2]) (by simp [H13.out.1]) HVAb.out hbz (.inl rfl) (fun k h => .inr h)
   ((HUA.out.on HFb.out fun _ _ h => h).sub fun k _ h => by
     rcases h with rfl | h
     · exact HSb.out
     · exact HSa.out k h) HN3.out (HL.out.more HFb.out fun x hx hs => by rw [HX.out x hx hs]; exact ⟨_, HBb.out⟩) (fun x hx h => by
     rcases h with h | h
     · exact h
     · exact HX.out x hx (HSa.out x h)))
  obtain ⟨qa, qc, hua', _⟩ := HUA.out.row.len; obtain ⟨nq, hnq⟩ : ∃ q, q = ka.length := ⟨_, rfl⟩; rw [<- hnq] at hua'; clear hnq; subst hua'; go_wp2_with fail; refine HLk.out.mono ?_; rintro e w13 ⟨rfl, va', hb13, ho13, hf13, hm13⟩
  have hsl : Ow.OwnX w13 w.heap.size 89 4 SltX (.slice ya n9 yc) (ks ++ ls) := HOb.out.fx hf13 fun k c hk h => by
   rcases h with rfl | h
   · rw [HBb.out] at hk; injection hk with hk; injection hk with _ hk; exact absurd hk (by decide)
   · obtain ⟨nw, _, hown⟩ := HVAb.out
     obtain ⟨cc, hcc⟩ := Ow.own_at hown _ h; rw [hk] at hcc; injection hcc with hcc; injection hcc with _ hcc; exact absurd hcc (by decide)
  have hml : Ow.OwnX w13 base 153 10 PM (.slice xa n11 xc) (lm ++ km) := HVMb.out.fx hf13 fun k c hk h => by
   rcases h with rfl | h
   · rw [HBb.out] at hk; injection hk with hk; injection hk with _ hk; exact absurd hk (by decide)
   · obtain ⟨nw, _, hown⟩ := HVAb.out
     obtain ⟨cc, hcc⟩ := Ow.own_at hown _ h; rw [hk] at hcc; injection hcc with hcc; injection hcc with _ hcc; exact absurd hcc (by decide)
  have hff : Fx S w w13 := HFb.out.trans (hf13.mono fun k _ h => by
   rcases h with rfl | h
   · exact HSb.out
   · exact HSa.out k h)
  have hmv : Moved w va va' := by
   rcases hm13 with h | ⟨q, h, h2⟩
   · exact .inl h
   · exact .inr ⟨q, Nat.le_trans HFb.out.size h, h2⟩
  have hbf : w13.heap[b]? = some (.cells (listC cs (.slice ya n9 yc) (.slice xa n11 xc) va') 141 (0, 0)) := by
   rw [hb13, HC10.out]; rfl
  have HEnd := hide (And.intro hbf (And.intro hsl (And.intro hml (And.intro ho13 (And.intro hff (And.intro HMv.out hmv)))))); clear hbf hsl hml ho13 hff hmv hb13 hf13 hm13 HLk; go_wp2_with fail; exact bodyPost_end (v := .tuple #[]) (by simp [results, Tryz.results147, go_sem]) rfl ⟨rfl, _, _, _, HEnd.out⟩
namespace On
theorem hide_ {p : Prop} (h : p) : Hid p := h
theorem disable (w : World) : (callFunc 163 #[]).run Tryz.prog w = .ok (.value (.tuple #[])) w := run_call_mark0 Tryz.func163 (by kernel_rfl) (by kernel_rfl) (by kernel_rfl) .disable (by kernel_rfl) w
theorem enable (w : World) : (callFunc 165 #[]).run Tryz.prog w = .ok (.value (.tuple #[])) w := run_call_mark0 Tryz.func165 (by kernel_rfl) (by kernel_rfl) (by kernel_rfl) .enable (by kernel_rfl) w
theorem acquire (a : Addr) (w : World) : (callFunc 166 #[.pointer (some a)]).run Tryz.prog w = .ok (.value (.tuple #[])) w := run_call_marked Tryz.func166 (by kernel_rfl) (by kernel_rfl) (by kernel_rfl) .acquire (by kernel_rfl) a w
theorem releaseMerge (a : Addr) (w : World) : (callFunc 168 #[.pointer (some a)]).run Tryz.prog w = .ok (.value (.tuple #[])) w := run_call_marked Tryz.func168 (by kernel_rfl) (by kernel_rfl) (by kernel_rfl) .releaseMerge (by kernel_rfl) a w
theorem store_deferred (a : Addr) (x : Value) (u : FrameMode) (w : World) (hc : w.cell? a = some x) (hz : w.frozen? a = false) :
 CallsD Tryz.prog 156 #[.pointer (some a), .bool true] u w fun e u' w' => u' = u /\ (e = .returned (.tuple #[]) /\ w' = w.drew.setCell a (.int .u32 1)) := by
 have hc' : w.drew.cell? a = some x := by go_simp
 have hz' : w.drew.frozen? a = false := by go_simp
 have hst := run_call_store (P := Tryz.prog) Tryz.func160 (by kernel_rfl) (by kernel_rfl) (by kernel_rfl) (by kernel_rfl) (k := .u32) (y := 1) hc' hz'
 go_enter_d Tryz.func156, Tryz.ntmps156
 go_wp2
 go_region_calls
 all_goals (go_end0; exact ⟨rfl, rfl⟩)
theorem unlock_deferred (a : Addr) (u : FrameMode) (w : World) (hc : w.cell? a = some (.int .i32 1)) (hz : w.frozen? a = false) :
 CallsD Tryz.prog 155 #[.pointer (some a)] u w fun e u' w' => u' = u /\ (e = .returned (.tuple #[]) /\ w' = w.setCell a (.int .i32 0)) := by
 have hd := disable; have he := enable; have hr := releaseMerge; have hadd := run_call_add (P := Tryz.prog) Tryz.func169 (by kernel_rfl) (by kernel_rfl) (by kernel_rfl) .i32 (by kernel_rfl) (y := -1) (s := 0) hc hz (by simp [go_sem]; rfl)
 have hcv := run_convert_to_unsafe (P := Tryz.prog) (src := 201) (dst := 205) Tryz.underlying201 Tryz.underlying205 (by kernel_rfl) hc
 go_enter_d Tryz.func155, Tryz.ntmps155
 go_wp2
 go_end0
 go_wp2
 go_end0
 exact ⟨rfl, rfl⟩
theorem lock_free (a : Addr) (w : World) (hc : w.cell? a = some (.int .i32 0)) (hz : w.frozen? a = false) :
 Calls Tryz.prog 154 #[.pointer (some a)] w fun e w' => e = .returned (.tuple #[]) /\ w' = w.setCell a (.int .i32 1) := by
 have hd := disable; have he := enable; have ha := acquire; have hcas := run_call_cas_hit (P := Tryz.prog) Tryz.func164 (by kernel_rfl) (by kernel_rfl) (by kernel_rfl) .i32 (by kernel_rfl) (y := 1) hc hz
 have hc' : (w.setCell a (.int .i32 1)).cell? a = some (.int .i32 1) := World.cell?_setCell_same w a _ hc; have hcv := run_convert_to_unsafe (P := Tryz.prog) (src := 201) (dst := 205) Tryz.underlying201 Tryz.underlying205 (by kernel_rfl) hc'
 go_enter Tryz.func154, Tryz.ntmps154; go_wp2
 first | go_end0 | (simp only [Exit.inBlock, Exit.then]; refine bodyPost_ret (results_none rfl _ _ _) rfl ?_) | refine bodyPost_ret (results_none rfl _ _ _) rfl ?_
 go_wp2
 go_end0
 exact ⟨rfl, rfl⟩
theorem load_bool (a : Addr) (n : Int) (w : World) (h : w.cell? a = some (.int .u32 n)) :
 Calls Tryz.prog 143 #[.pointer (some a)] w fun e w' => e = .returned (.bool (n != 0)) /\ w' = w := by
 have hl := run_call_load (P := Tryz.prog) Tryz.func153 (by kernel_rfl) (by kernel_rfl) (by kernel_rfl) .u32 (by kernel_rfl) (w := w) (a := a) (x := n) h
 go_enter Tryz.func143, Tryz.ntmps143; go_wp2; go_ret; exact ⟨rfl, rfl⟩
theorem slow_of (b off : Nat) (x : Value) (w : World) (R : World -> Prop)
 (h0 : w.cell? ⟨b, off, none⟩ = some (.int .u32 0)) (h1 : w.cell? ⟨b, off + 1, none⟩ = some (.int .i32 0))
 (f0 : w.frozen? ⟨b, off, none⟩ = false) (f1 : w.frozen? ⟨b, off + 1, none⟩ = false)
 (hf : Calls Tryz.prog 129 #[x] (w.setCell ⟨b, off + 1, none⟩ (.int .i32 1)) fun e w2 => e = .returned (.tuple #[]) /\ R w2)
 (hR : ∀ w2, R w2 -> w2.cell? ⟨b, off, none⟩ = some (.int .u32 0) /\ w2.frozen? ⟨b, off, none⟩ = false /\ w2.cell? ⟨b, off + 1, none⟩ = some (.int .i32 1) /\ w2.frozen? ⟨b, off + 1, none⟩ = false) :
 Calls Tryz.prog 144 #[.pointer (some ⟨b, off, none⟩), .func (.func 129) #[x] #[]] w fun e w' => e = .returned (.tuple #[]) /\ ∃ w2, R w2 /\ w' = (w2.drew.setCell ⟨b, off, none⟩ (.int .u32 1)).setCell ⟨b, off + 1, none⟩ (.int .i32 0) := by
 have hL := hide_ (load_bool ⟨b, off, none⟩ 0 (w.setCell ⟨b, off + 1, none⟩ (.int .i32 1)) ((World.cell?_setCell_other _ ⟨b, off + 1, none⟩ ⟨b, off, none⟩ _ (by simp)).trans h0))
 have hnot : ∀ (x : Bool) (w : World), (Op.unary .not (.bool x)).run Tryz.prog w = .ok (.bool (!x)) w := fun _ _ => rfl; have HF := hide_ hf; have HR := hide_ hR; clear hf hR
 go_enter_defers Tryz.func144, Tryz.ntmps144
 go_wp2_with (go_at_call 154; refine (lock_free ⟨b, off + 1, none⟩ _ (by go_simp) (by go_simp)).mono ?_; rintro e w' ⟨rfl, rfl⟩)
 refine hL.out.mono ?_; rintro e w1 ⟨rfl, hw1⟩; have hw1' := hw1.symm; subst hw1'; clear hL hw1; go_wp2_with fail; refine HF.out.mono ?_; rintro e w2 ⟨rfl, h2⟩; obtain ⟨r0, r1, r2, r3⟩ := HR.out w2 h2; have HR2 := hide_ h2; clear HF HR h2; go_wp2_with fail; refine leaves_cons (f := 156) (args := #[.pointer (some ⟨b, off, none⟩), .bool true]) (by simp) (by simp [go_sem]) ?_
 refine (store_deferred ⟨b, off, none⟩ (.int .u32 0) .returning _ r0 r1).mono ?_; rintro e u' w'' ⟨rfl, rfl, rfl⟩; refine leaves_cons (f := 155) (args := #[.pointer (some ⟨b, off + 1, none⟩)]) (by simp [settle]) (by simp [go_sem]) ?_
 refine (unlock_deferred ⟨b, off + 1, none⟩ _ _ ?_ (by simp [r3])).mono ?_
 · refine (World.cell?_setCell_other _ ⟨b, off, none⟩ ⟨b, off + 1, none⟩ _ (by simp)).trans ?_
   rw [World.cell?_drew]; exact r2
 rintro e u' w'' ⟨rfl, rfl, rfl⟩
 first
  | exact ⟨_, results_none rfl _ _ _, rfl, _, HR2.out, rfl⟩
  | (simp only [Leaves, settle]; exact ⟨_, results_none rfl _ _ _, rfl, _, HR2.out, rfl⟩)
  | (have h := HR2.out; simp [Leaves, settle, results, Tryz.results144]; exact ⟨_, h, rfl⟩)
theorem do_first (b off : Nat) (x : Value) (w : World) (R : World -> Prop)
 (h0 : w.cell? ⟨b, off, none⟩ = some (.int .u32 0)) (h1 : w.cell? ⟨b, off + 1, none⟩ = some (.int .i32 0))
 (f0 : w.frozen? ⟨b, off, none⟩ = false) (f1 : w.frozen? ⟨b, off + 1, none⟩ = false)
 (hf : Calls Tryz.prog 129 #[x] (w.setCell ⟨b, off + 1, none⟩ (.int .i32 1)) fun e w2 => e = .returned (.tuple #[]) /\ R w2)
 (hR : ∀ w2, R w2 -> w2.cell? ⟨b, off, none⟩ = some (.int .u32 0) /\ w2.frozen? ⟨b, off, none⟩ = false /\ w2.cell? ⟨b, off + 1, none⟩ = some (.int .i32 1) /\ w2.frozen? ⟨b, off + 1, none⟩ = false) :
 Calls Tryz.prog 128 #[.pointer (some ⟨b, off, none⟩), .func (.func 129) #[x] #[]] w fun e w' => e = .returned (.tuple #[]) /\ ∃ w2, R w2 /\ w' = (w2.drew.setCell ⟨b, off, none⟩ (.int .u32 1)).setCell ⟨b, off + 1, none⟩ (.int .i32 0) := by
 have hL := hide_ (load_bool ⟨b, off, none⟩ 0 w h0); have hS := hide_ (slow_of b off x w R h0 h1 f0 f1 hf hR); have hnot : ∀ (x : Bool) (w : World), (Op.unary .not (.bool x)).run Tryz.prog w = .ok (.bool (!x)) w := fun _ _ => rfl; clear hf hR; go_enter Tryz.func128, Tryz.ntmps128; go_wp2_with fail; refine hL.out.mono ?_; rintro e w1 ⟨rfl, hw1⟩; have hw1' := hw1.symm; subst hw1'; clear hL hw1; go_wp2_with fail; refine hS.out.mono ?_; rintro e w2 ⟨rfl, h2⟩; have H2 := hide_ h2; clear hS h2; go_wp2_with fail
 go_end0
 exact ⟨rfl, H2.out⟩
theorem do_done (a : Addr) (fv : Value) (w : World) (h0 : w.cell? a = some (.int .u32 1)) :
 Calls Tryz.prog 128 #[.pointer (some a), fv] w fun e w' => e = .returned (.tuple #[]) /\ w' = w := by
 have hL := hide_ (load_bool a 1 w h0); have hnot : ∀ (x : Bool) (w : World), (Op.unary .not (.bool x)).run Tryz.prog w = .ok (.bool (!x)) w := fun _ _ => rfl; go_enter Tryz.func128, Tryz.ntmps128; go_wp2_with fail; refine hL.out.mono ?_; rintro e w1 ⟨rfl, hw1⟩; have hw1' := hw1.symm; subst hw1'; clear hL hw1; go_wp2_with fail
 go_end0
 exact ⟨rfl, rfl⟩
end On
end Go.Proofs.YtbbbnciejmdpfaaGreatDoor

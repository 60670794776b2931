/- Blocks of one type that stay; append as a step of a region that draws; the loops that fill a row through a pointer. -/
import Derived.Test.YtdgfidaopkcjoaaGreatDoorIns
import Derived.Test.YtdgfidaopkcjoaaGreatDoorListed
import Derived.Maps.AppendAt
import Derived.Deep.RegionWith
import Derived.Deep.RegionLaw
import Derived.Deep.Cut
import Derived.Deep.CutRange
namespace Go.Proofs.YtdgfidaopkcjoaaGreatDoor
open Go.RowKit
set_option linter.unusedVariables false
set_option linter.unusedSimpArgs false

theorem pair_eta {α β : Type} (x : α × β) : ∃ a b, x = (a, b) := ⟨x.1, x.2, rfl⟩
theorem Rd.drew {w : World} {b : Nat} {C : Cx} {s : Pp.St} (h : Rd w b C s) : Rd w.drew b C s :=
  h.fr (S := []) ((Fr.refl _ _).drew) (fun x hx => by cases hx)
theorem Lo.drew {w0 w : World} {b : Nat} {C : Cx} {s : Pp.St} {Ls : List (Nat × Array Value × TypeId)} (h : Lo w0 w b C s Ls) : Lo w0 w.drew b C s Ls :=
  h.call h.rd.drew ((Fr.refl _ _).drew)

/-- The blocks of one type stay as they are. -/
def Kp (e : TypeId) (w w' : World) : Prop := ∀ (k : Nat) (c : Array Value) (f : Nat × Nat), w.heap[k]? = some (Obj.cells c e f) → w'.heap[k]? = some (Obj.cells c e f)
theorem Kp.refl (e : TypeId) (w : World) : Kp e w w := fun _ _ _ h => h
theorem Kp.trans {e : TypeId} {a b c : World} (h : Kp e a b) (k : Kp e b c) : Kp e a c := fun i x f hx => k i x f (h i x f hx)
theorem Kp.below {e : TypeId} {w w' : World} (h : Below w.heap.size w w') : Kp e w w' := fun k c f hk => (h.block k (lt_of_block hk)).trans hk
theorem Kp.alloc (e : TypeId) (w : World) (o : Obj) : Kp e w (w.alloc o) := Kp.below ((Below.refl _ _).alloc (Nat.le_refl _) _)
theorem Kp.drew (e : TypeId) (w : World) : Kp e w w.drew := fun _ _ _ h => h
theorem Kp.fr {e : TypeId} {w w' : World} {b : Nat} {C : Cx} {s : Pp.St} (hr : Rd w b C s) (h : Fr [b] w w') (he : 62 ≠ e) : Kp e w w' := fun k c f hk => (h.block k (lt_of_block hk) (fun hm => by simp at hm; subst hm; rw [hr.blk] at hk; simp at hk; exact he hk.2.1)).trans hk
theorem Kp.set {e t : TypeId} {w : World} {L : Nat} {c : Array Value} {f : Nat × Nat} (hL : w.heap[L]? = some (.cells c t f)) (he : t ≠ e) (k : Nat) (u : Value) : Kp e w (w.setCell ⟨L, k, none⟩ u) := fun i x g hi => by
  rw [Below.heap_setCell _ _ _ _ (fun h => by subst h; rw [hL] at hi; simp at hi; exact he hi.2.1)]; exact hi
theorem Kp.grown {e e2 size base n : Nat} {w w' : World} {v : Value} {xs : List Value} (ho : w.ownsRow base e2 size v n xs) (hg : w.grownBy w' v.ownBlock) (he : e2 ≠ e) : Kp e w w' := fun k c f hk => (hg.block k (lt_of_block hk) (fun h => by
  obtain ⟨c', hc'⟩ := own_at ho k h.symm
  rw [hc'] at hk; simp at hk; exact he hk.2.1)).trans hk
theorem Kp.own {e size base n : Nat} {w w' : World} {v : Value} {xs : List Value} (hk : Kp e w w') (h : w.ownsRow base e size v n xs) : w'.ownsRow base e size v n xs := by
  refine ⟨h.1, ?_⟩
  rcases h.2 with h2 | ⟨g, cap, cur, rfl, hb, hg, r⟩
  · exact .inl h2
  · exact .inr ⟨g, cap, cur, rfl, hb, hk g _ _ hg, r⟩

theorem step_append_own {P : Program} {ops : Array Oper} {o : Oper} {a : Act} {w : World} {K : Act → World → Prop} {Q : Exit → Act → World → Prop} {E : Prop}
    (hg : o.guard = none) (s x : Operand) (t : TypeId) (hop : o.op = Op.call { callee := Callee.builtin Builtin.append, args := #[s, x], argTypes := #[t, t] })
    (base : Nat) (e : TypeId) (i : TypeInfo) (z : Value) (size bytes : Nat) (ht : P.underlying t = some (.slice e)) (hi : P.info? e = some i) (hz : i.zero = some z)
    (hsize : i.size = size) (hby : i.bytes = bytes) (hzs : z.cells.size = size) (hsz : 0 < size)
    (v : Value) (n : Nat) (xs : List Value) (hs : a.eval s = v) (hown : w.ownsRow base e size v n xs)
    (ad : Addr) (m c : Nat) (news : List Value) (hx : a.eval x = .slice (some ad) m c) (hl : news.length = m * size) (hnews : ∀ j u, news[j]? = some u → w.cell? (ad.add j) = some u) (h1 : ∀ u ∈ news, u.oneCell' = true)
    (h63 : n + m ≤ maxLen) (hbytes : (n + m) * bytes ≤ 140737488355328) (hbase : base ≤ w.heap.size)
    (h : ∀ v' w', w'.ownsRow base e size v' (n + m) (xs ++ news) → w.grownBy w' v.ownBlock → K (a.put o.dst v') w') :
    if Region.wanted o (yielded ops a.tmps) = true then Oper.wp P o a w K Q else E := by
  have hw : Region.wanted o (yielded ops a.tmps) = true := by simp [Region.wanted, hg]
  rw [if_pos hw]
  obtain ⟨v', w', hr, h2, h3, h4, h5⟩ := run_append_own_at (P := P) w base t o.type e i z size bytes ht hi hz hsize hby hzs hsz v n xs hown ad m c news hl hnews h1 h63 hbytes hbase
  unfold Oper.wp execOp
  simp only [hop, resolve, invoke, builtin, Sem.run_bind, Sem.run_pure, Result.andThen_ok, List.map_toArray, List.map_cons, List.map_nil, hs, hx, hr]
  exact h v' w' h2 h3

theorem Lo.grown {w0 w w' : World} {b : Nat} {C : Cx} {s : Pp.St} {Ls : List (Nat × Array Value × TypeId)} {e size n : Nat} {v : Value} {xs : List Value} (h : Lo w0 w b C s Ls) (ho : w.ownsRow w0.heap.size e size v n xs) (hg : w.grownBy w' v.ownBlock) (he : 85 ≠ e)
    (hL : ∀ (i : Nat) x, Ls[i]? = some x → x.2.2 ≠ e) : Lo w0 w' b C s Ls := by
  have hlt := h.lt
  refine ⟨h.rd.grown hg (fun k hk => ?_), h.fr.grown hg (fun k hk => .inr (ho.lt k hk).1), h.lt, ?_, h.ge, h.ne⟩
  · refine ⟨by have := (ho.lt k hk).1; omega, fun c f hc => ?_⟩
    obtain ⟨c', hc'⟩ := own_at ho k hk
    rw [hc'] at hc; simp at hc; exact he hc.2.1.symm
  · intro i x hx
    exact Kp.grown ho hg (Ne.symm (hL i x hx)) _ _ _ (h.bl i x hx)
theorem set_get {Ls : List (Nat × Array Value × TypeId)} {ix : Nat} {x y : Nat × Array Value × TypeId} (h : Ls[ix]? = some x) : (Ls.set ix y)[ix]? = some y := by
  have hlt : ix < Ls.length := by
    rcases Nat.lt_or_ge ix Ls.length with h1 | h1
    · exact h1
    · rw [List.getElem?_eq_none h1] at h; cases h
  simp [hlt]
theorem set_types {Ls : List (Nat × Array Value × TypeId)} {ix : Nat} {L : Nat} {c c' : Array Value} {t e : TypeId} (h : Ls[ix]? = some (L, c, t)) (hT : ∀ (i : Nat) x, Ls[i]? = some x → x.2.2 ≠ e) : ∀ (i : Nat) x, (Ls.set ix (L, c', t))[i]? = some x → x.2.2 ≠ e := by
  intro i x hx
  rw [List.getElem?_set] at hx
  split at hx
  · split at hx
    · simp at hx; subst hx; exact hT ix (L, c, t) h
    · cases hx
  · exact hT i x hx

theorem Tryz.info52 : (Tryz.prog.info? 52).map (fun i => (i.zero, i.size, i.bytes)) = some (some (.agg #[.int .i64 0, .int .i64 0, .string ⟨#[]⟩, .string ⟨#[]⟩]), 4, 48) := by kernel_rfl
theorem Tryz.info54 : (Tryz.prog.info? 54).map (fun i => (i.zero, i.size, i.bytes)) = some (some (.agg #[.string ⟨#[]⟩, .int .i64 0, .int .i64 0, .int .i64 0]), 4, 40) := by kernel_rfl
def inssCells (l : List Pp.Ins) : List Value := l.flatMap insCells
def ctcsCells (l : List Pp.Ctc) : List Value := l.flatMap ctcCells
theorem inssCells_app (l : List Pp.Ins) (x : Pp.Ins) : inssCells (l ++ [x]) = inssCells l ++ [.int .i64 (x.op : Int), .int .i64 x.n, .string ⟨x.a.toArray⟩, .string ⟨x.b.toArray⟩] := by simp [inssCells, insCells]
theorem ctcsCells_app (l : List Pp.Ctc) (x : Pp.Ctc) : ctcsCells (l ++ [x]) = ctcsCells l ++ [.string ⟨x.name.toArray⟩, .int .i64 x.lo, .int .i64 x.hi, .int .i64 x.pc] := by simp [ctcsCells, ctcCells]
theorem fresh_news (w : World) (c : Array Value) (e : TypeId) : ∀ j u, c.toList[j]? = some u → (w.alloc (.cells c e)).cell? ((⟨w.heap.size, 0, none⟩ : Addr).add j) = some u := by
  intro j u hj
  rw [Go.WideShapes.add_plain, Nat.zero_add, cell_blk (heap_alloc_new w _)]
  simpa using hj
theorem many_no {α : Type} {C : Cx} {s : Pp.St} {q : Pp.Wd → Bool} (h : Pp.has C.ws s q = false) (item : Pp.Pr α) (k : Nat) (acc : List α) : (Pp.many q item k acc).run C.ws s = (acc, s) := by
  cases k with
  | zero => rw [Pp.many, peek_no h]; rfl
  | succ k => rw [Pp.many, peek_no h]; rfl
theorem many_full {α : Type} {C : Cx} {s : Pp.St} {q : Pp.Wd → Bool} (h : Pp.has C.ws s q = true) (item : Pp.Pr α) (acc : List α) : (Pp.many q item 0 acc).run C.ws s = (acc, Pp.failS s 2) := by
  rw [Pp.many, peek_yes h]; rfl
theorem many_yes {α : Type} {C : Cx} {s : Pp.St} {q : Pp.Wd → Bool} (h : Pp.has C.ws s q = true) (item : Pp.Pr α) (k : Nat) (acc : List α) : (Pp.many q item (k + 1) acc).run C.ws s = (Pp.many q item k (acc ++ [(item.run C.ws s).1])).run C.ws (item.run C.ws s).2 := by
  rw [Pp.many, peek_yes h, Pp.run_bind]

end Go.Proofs.YtdgfidaopkcjoaaGreatDoor

/- What the laws of this seat lean on: 4 texts. -/
import Derived.Test.YtbbbnciejmdpfaaGreatDoorPkAa
import Derived.ProofKit
import Derived.OpenShut
import Derived.Deep.Slices
import Derived.Test.YtbbbnciejmdpfaaGreatDoorPkAz
import Derived.Test.YtbbbnciejmdpfaaGreatDoorPkAw
set_option maxRecDepth 100000
set_option maxHeartbeats 64000000
set_option linter.unusedVariables false
set_option linter.unusedSimpArgs false
namespace Go.Proofs.YtbbbnciejmdpfaaGreatDoor
open Go.ChangeShapes Go.WideShapes Go.ChangeAt Go.RowKit
namespace Ox
section
variable {H : Type} {enc : TypeId × Value -> H} {w : World} {base : Nat} {spare : Nat -> Bool} {held : Bool}
theorem choose_any {α : Type} {n : Nat} {p : Nat -> α -> Prop} (h0 : 0 < n) (h : ∀ i, i < n -> ∃ x, p i x) : ∃ f : Nat -> α, ∀ i, i < n -> p i (f i) := by
 refine ⟨fun i => if hi : i < n then Classical.choose (h i hi) else Classical.choose (h 0 h0), fun i hi => ?_⟩
 simp only [dif_pos hi]; exact Classical.choose_spec (h i hi)
theorem toL (s : ByteArray) : s.data.toList.length = s.size := by rw [Array.length_toList]; rfl
theorem open_row {α : Type} {P : α -> List Value -> Prop} {t e : TypeId} {sz fuel : Nat} {v : Value} {x : DataW H × List MemPlace} (ht : Tryz.prog.underlying t = some (.slice e)) (hc : Tryz.prog.cellsOf e = sz) (hsz : 0 < sz)
 (hel : ∀ (n : Nat) (cs : List Value) (x : DataW H × List MemPlace), DataW.trod enc Tryz.prog w base spare held n e cs = some x -> ∃ a, P a cs /\ cs.length = sz)
 (h : DataW.trod enc Tryz.prog w base spare held fuel t [v] = some x) : ∃ l : List α, RowX w sz P v l /\ l.length <= maxLen := by
 rcases Deep.open_slice ht h with ⟨hcs, _⟩ | ⟨x, l, c, m, n, D, Pl, hcs, hb, hl, hm, hmm, _, hx⟩
 · simp at hcs
   subst hcs; exact ⟨[], ⟨none, 0, rfl, Nat.le_refl _, .inl rfl⟩, Nat.zero_le _⟩
 · simp at hcs
   subst hcs
   rcases Nat.eq_zero_or_pos l with h0 | h0
   · subst h0
     exact ⟨[], ⟨some x, c, rfl, Nat.zero_le _, .inl rfl⟩, Nat.zero_le _⟩
   have hlm : l <= m := by rw [hmm]; split <;> omega
   have each : ∀ i, i < l -> ∃ (a : α × List Value), P a.1 a.2 /\ a.2.length = sz /\ ∀ (j : Nat) (u : Value), a.2[j]? = some u -> w.cell? (x.add (i * sz + j)) = some u := by
    intro i hi; obtain ⟨cs', h1, h2⟩ := hx i (by omega)
    rw [hc] at h1; obtain ⟨a, ha, hal⟩ := hel _ _ _ h2; obtain ⟨_, _, hcell⟩ := World.cells?_some h1; refine ⟨(a, cs'), ha, hal, fun j u hj => ?_⟩
    have hjl : j < sz := by
     rw [<- hal]
     rcases Nat.lt_or_ge j cs'.length with h | h
     · exact h
     · simp only at hj; rw [List.getElem?_eq_none h] at hj; cases hj
    have e1 := hcell j hjl; rw [Deep.add_add] at e1; rw [e1]; exact hj
   obtain ⟨T, hT⟩ := choose_any h0 each
   have hget : ∀ j a, ((List.range l).map fun i => (T i).1)[j]? = some a -> j < l /\ a = (T j).1 := by
    intro j a hj
    have hjl : j < l := by
     rcases Nat.lt_or_ge j l with h | h
     · exact h
     · rw [List.getElem?_eq_none (by simpa using h)] at hj; cases hj
    rw [List.getElem?_map, List.getElem?_range hjl] at hj; simp at hj; exact ⟨hjl, hj.symm⟩
   have hne : ∃ u, (T 0).2[0]? = some u := by
    have := (hT 0 h0).2.1; exact ⟨(T 0).2[0]'(by omega), List.getElem?_eq_getElem _⟩
   obtain ⟨u, hu⟩ := hne; have h00 := (hT 0 h0).2.2 0 u hu; obtain ⟨b, off, spot⟩ := x; have hspot : spot = none := by simpa [Addr.add] using World.cell?_spot h00
   subst hspot; refine ⟨(List.range l).map fun i => (T i).1, ⟨some ⟨b, off, none⟩, c, by simp, by simpa using hl, .inr ⟨b, off, rfl, by simpa [Addr.add] using World.block_lt_of_cell? w _ h00, fun j a hj => ?_⟩⟩, by simp; omega⟩
   obtain ⟨hjl, rfl⟩ := hget j a hj; refine ⟨(T j).2, (hT j hjl).1, fun i u hi => ?_⟩; have := (hT j hjl).2.2 i u hi; rw [Go.WideShapes.add_plain, <- Nat.add_assoc] at this; exact this
theorem open_str {n : Nat} {cs : List Value} {x : DataW H × List MemPlace} (h : DataW.trod enc Tryz.prog w base spare held n 9 cs = some x) : ∃ s : Pp.Bs, StrX s cs /\ cs.length = 1 := by
 obtain ⟨s, rfl, _, hs⟩ := DataW.trod_string Tryz.underlying9 h; exact ⟨s.data.toList, ⟨rfl, by rw [toL]; exact hs⟩, rfl⟩
theorem c_int : Tryz.prog.cellsOf 3 = 1 := by kernel_rfl
theorem c_str : Tryz.prog.cellsOf 9 = 1 := by kernel_rfl
theorem c_bool : Tryz.prog.cellsOf 4 = 1 := by kernel_rfl
theorem c_ty : Tryz.prog.cellsOf 26 = 2 := by kernel_rfl
theorem c_fld : Tryz.prog.cellsOf 52 = 4 := by kernel_rfl
theorem c_ins : Tryz.prog.cellsOf 59 = 4 := by kernel_rfl
theorem c_ctc : Tryz.prog.cellsOf 61 = 4 := by kernel_rfl
theorem c_mth : Tryz.prog.cellsOf 57 = 9 := by kernel_rfl
theorem c_cls : Tryz.prog.cellsOf 42 = 6 := by kernel_rfl
theorem c_prog : Tryz.prog.cellsOf 24 = 1 := by kernel_rfl
theorem c_strs : Tryz.prog.cellsOf 38 = 1 := by kernel_rfl
theorem c_tys : Tryz.prog.cellsOf 53 = 1 := by kernel_rfl
theorem c_flds : Tryz.prog.cellsOf 39 = 1 := by kernel_rfl
theorem c_inss : Tryz.prog.cellsOf 54 = 1 := by kernel_rfl
theorem c_ctcs : Tryz.prog.cellsOf 55 = 1 := by kernel_rfl
theorem c_mths : Tryz.prog.cellsOf 40 = 1 := by kernel_rfl
theorem c_clss : Tryz.prog.cellsOf 22 = 1 := by kernel_rfl
theorem open_ty {n : Nat} {cs : List Value} {x : DataW H × List MemPlace} (h : DataW.trod enc Tryz.prog w base spare held n 26 cs = some x) : ∃ t : Pp.Ty, TyX t cs /\ cs.length = 2 := by
 obtain ⟨xs, k, _, _, hlen, hxl, hf⟩ := DataW.trod_struct Tryz.underlying26 h; rw [c_ty] at hlen
 match xs, hxl, cs, hlen with
 | [y0, y1], _, [v0, v1], _ =>
   have g0 := hf 0 _ rfl; have g1 := hf 1 _ rfl; simp [c_int, c_str] at g0 g1; obtain ⟨n0, e0, _, _⟩ := DataW.trod_int Tryz.underlying3 g0; obtain ⟨s1, e1, _, hs⟩ := DataW.trod_string Tryz.underlying9 g1; simp at e0 e1; subst e0 e1; exact ⟨⟨n0, s1.data.toList⟩, ⟨rfl, by rw [toL]; exact hs⟩, rfl⟩
theorem open_fld {n : Nat} {cs : List Value} {x : DataW H × List MemPlace} (h : DataW.trod enc Tryz.prog w base spare held n 52 cs = some x) : ∃ t : Pp.Fld, FldX t cs /\ cs.length = 4 := by
 obtain ⟨xs, k, _, _, hlen, hxl, hf⟩ := DataW.trod_struct Tryz.underlying52 h; rw [c_fld] at hlen
 match xs, hxl, cs, hlen with
 | [y0, y1, y2], _, [v0, v1, v2, v3], _ =>
   have g0 := hf 0 _ rfl; have g1 := hf 1 _ rfl; have g2 := hf 2 _ rfl; simp [c_str, c_ty, c_bool] at g0 g1 g2; obtain ⟨s0, e0, _, hs0⟩ := DataW.trod_string Tryz.underlying9 g0; obtain ⟨ty, e1, _⟩ := open_ty g1; obtain ⟨b, e2, _⟩ := DataW.trod_bool Tryz.underlying4 g2; obtain ⟨e1, hty⟩ := e1; simp [tyL] at e0 e1 e2; obtain ⟨e11, e12⟩ := e1; subst e0 e11 e12 e2; exact ⟨⟨s0.data.toList, ty, b⟩, ⟨rfl, by rw [toL]; exact hs0, hty⟩, rfl⟩
theorem open_ins {n : Nat} {cs : List Value} {x : DataW H × List MemPlace} (h : DataW.trod enc Tryz.prog w base spare held n 59 cs = some x) : ∃ t : Pp.XIns, InsX t cs /\ cs.length = 4 := by
 obtain ⟨xs, k, _, _, hlen, hxl, hf⟩ := DataW.trod_struct Tryz.underlying59 h; rw [c_ins] at hlen
 match xs, hxl, cs, hlen with
 | [y0, y1, y2, y3], _, [v0, v1, v2, v3], _ =>
   have g0 := hf 0 _ rfl; have g1 := hf 1 _ rfl; have g2 := hf 2 _ rfl; have g3 := hf 3 _ rfl; simp [c_int, c_str] at g0 g1 g2 g3; obtain ⟨n0, e0, _, _⟩ := DataW.trod_int Tryz.underlying3 g0; obtain ⟨n1, e1, _, _⟩ := DataW.trod_int Tryz.underlying3 g1; obtain ⟨s2, e2, _, hs2⟩ := DataW.trod_string Tryz.underlying9 g2; obtain ⟨s3, e3, _, hs3⟩ := DataW.trod_string Tryz.underlying9 g3; simp at e0 e1 e2 e3; subst e0 e1 e2 e3; exact ⟨⟨n0, n1, s2.data.toList, s3.data.toList⟩, ⟨rfl, by rw [toL]; exact hs2, by rw [toL]; exact hs3⟩, rfl⟩
theorem open_ctc {n : Nat} {cs : List Value} {x : DataW H × List MemPlace} (h : DataW.trod enc Tryz.prog w base spare held n 61 cs = some x) : ∃ t : Pp.Ctc, CtcX t cs /\ cs.length = 4 := by
 obtain ⟨xs, k, _, _, hlen, hxl, hf⟩ := DataW.trod_struct Tryz.underlying61 h; rw [c_ctc] at hlen
 match xs, hxl, cs, hlen with
 | [y0, y1, y2, y3], _, [v0, v1, v2, v3], _ =>
   have g0 := hf 0 _ rfl; have g1 := hf 1 _ rfl; have g2 := hf 2 _ rfl; have g3 := hf 3 _ rfl; simp [c_int, c_str] at g0 g1 g2 g3; obtain ⟨s0, e0, _, hs0⟩ := DataW.trod_string Tryz.underlying9 g0; obtain ⟨n1, e1, _, _⟩ := DataW.trod_int Tryz.underlying3 g1; obtain ⟨n2, e2, _, _⟩ := DataW.trod_int Tryz.underlying3 g2; obtain ⟨n3, e3, _, _⟩ := DataW.trod_int Tryz.underlying3 g3; simp at e0 e1 e2 e3; subst e0 e1 e2 e3; exact ⟨⟨s0.data.toList, n1, n2, n3⟩, ⟨rfl, by rw [toL]; exact hs0⟩, rfl⟩
theorem open_mth {n : Nat} {cs : List Value} {x : DataW H × List MemPlace} (h : DataW.trod enc Tryz.prog w base spare held n 57 cs = some x) : ∃ t : Pp.XMth, MthX w t cs /\ cs.length = 9 := by
 obtain ⟨xs, k, _, _, hlen, hxl, hf⟩ := DataW.trod_struct Tryz.underlying57 h; rw [c_mth] at hlen
 match xs, hxl, cs, hlen with
 | [y0, y1, y2, y3, y4, y5, y6, y7], _, [v0, v1, v2, v3, v4, v5, v6, v7, v8], _ =>
   have g0 := hf 0 _ rfl; have g1 := hf 1 _ rfl; have g2 := hf 2 _ rfl; have g3 := hf 3 _ rfl; have g4 := hf 4 _ rfl; have g5 := hf 5 _ rfl; have g6 := hf 6 _ rfl; have g7 := hf 7 _ rfl; simp [c_str, c_bool, c_tys, c_ty, c_int, c_inss, c_ctcs] at g0 g1 g2 g3 g4 g5 g6 g7; obtain ⟨s0, e0, _, hs0⟩ := DataW.trod_string Tryz.underlying9 g0; obtain ⟨b1, e1, _⟩ := DataW.trod_bool Tryz.underlying4 g1; obtain ⟨b2, e2, _⟩ := DataW.trod_bool Tryz.underlying4 g2; obtain ⟨ps, hps, lps⟩ := open_row (P := TyX) Tryz.underlying53 c_ty (by omega) (fun n cs x h => open_ty h) g3
   obtain ⟨ty, e4, _⟩ := open_ty g4; obtain ⟨n5, e5, _, _⟩ := DataW.trod_int Tryz.underlying3 g5; obtain ⟨co, hco, lco⟩ := open_row (P := InsX) Tryz.underlying54 c_ins (by omega) (fun n cs x h => open_ins h) g6
   obtain ⟨ca, hca, lca⟩ := open_row (P := CtcX) Tryz.underlying55 c_ctc (by omega) (fun n cs x h => open_ctc h) g7
   obtain ⟨e4, hty⟩ := e4; simp [tyL] at e0 e1 e2 e4 e5; obtain ⟨e41, e42⟩ := e4; subst e0 e1 e2 e41 e42 e5; exact ⟨⟨s0.data.toList, b1, b2, ps, ty, n5, co, ca⟩, ⟨_, _, _, rfl, hps, hco, hca, by rw [toL]; exact hs0, hty, lps, lco, lca⟩, rfl⟩
theorem open_cls {n : Nat} {cs : List Value} {x : DataW H × List MemPlace} (h : DataW.trod enc Tryz.prog w base spare held n 42 cs = some x) : ∃ t : Pp.XCls, ClsX w t cs /\ cs.length = 6 := by
 obtain ⟨xs, k, _, _, hlen, hxl, hf⟩ := DataW.trod_struct Tryz.underlying42 h; rw [c_cls] at hlen
 match xs, hxl, cs, hlen with
 | [y0, y1, y2, y3, y4, y5], _, [v0, v1, v2, v3, v4, v5], _ =>
   have g0 := hf 0 _ rfl; have g1 := hf 1 _ rfl; have g2 := hf 2 _ rfl; have g3 := hf 3 _ rfl; have g4 := hf 4 _ rfl; have g5 := hf 5 _ rfl; simp [c_str, c_bool, c_strs, c_flds, c_mths] at g0 g1 g2 g3 g4 g5; obtain ⟨s0, e0, _, hs0⟩ := DataW.trod_string Tryz.underlying9 g0; obtain ⟨b1, e1, _⟩ := DataW.trod_bool Tryz.underlying4 g1; obtain ⟨s2, e2, _, hs2⟩ := DataW.trod_string Tryz.underlying9 g2; obtain ⟨ifs, hif, lif⟩ := open_row (P := StrX) Tryz.underlying38 c_str (by omega) (fun n cs x h => open_str h) g3
   obtain ⟨fs, hfs, lfs⟩ := open_row (P := FldX) Tryz.underlying39 c_fld (by omega) (fun n cs x h => open_fld h) g4
   obtain ⟨ms, hms, lms⟩ := open_row (P := MthX w) Tryz.underlying40 c_mth (by omega) (fun n cs x h => open_mth h) g5
   simp at e0 e1 e2; subst e0 e1 e2; exact ⟨⟨s0.data.toList, b1, s2.data.toList, ifs, fs, ms⟩, ⟨_, _, _, rfl, hif, hfs, hms, by rw [toL]; exact hs0, by rw [toL]; exact hs2, lif, lfs, lms⟩, rfl⟩
theorem open_prog {r : Reach} {b0 : Nat} {v : Value} {d : DataW H} {p : List MemPlace} (hv : Value.okWide Tryz.prog w r b0 24 v) (h : DataW.Trod enc Tryz.prog w base spare held 24 v d p) : ∃ (u : Value) (cs : List Pp.XCls), v = .agg #[u] /\ ProgX w u cs := by
 obtain ⟨cs, rfl, hsz⟩ := okWide_struct Tryz.underlying24 hv; rw [c_prog] at hsz
 obtain ⟨c0, rfl⟩ : ∃ c0, cs = #[c0] := by
  obtain ⟨l⟩ := cs
  match l, hsz with
  | [x], _ => exact ⟨x, rfl⟩
 obtain ⟨fuel, hf⟩ := h; obtain ⟨xs, k, _, _, hlen, hxl, hf⟩ := DataW.trod_struct Tryz.underlying24 hf
 match xs, hxl with
 | [y0], _ =>
   have g0 := hf 0 _ rfl; simp [c_clss, Value.cells] at g0; obtain ⟨l, hl, ll⟩ := open_row (P := ClsX w) Tryz.underlying22 c_cls (by omega) (fun n cs x h => open_cls h) g0
   exact ⟨c0, l, rfl, hl, ll⟩
end
end Ox
namespace Ox
theorem open_tyv {H : Type} {enc : TypeId × Value -> H} {w : World} {base : Nat} {spare : Nat -> Bool} {held : Bool} {r : Reach} {b0 : Nat} {v : Value} {d : DataW H} {p : List MemPlace} (hv : Value.okWide Tryz.prog w r b0 26 v) (h : DataW.Trod enc Tryz.prog w base spare held 26 v d p) : ∃ t : Pp.Ty, v = .agg #[.int .i64 t.kind, .string ⟨t.name.toArray⟩] /\ t.name.length <= maxLen := by
 obtain ⟨cs, rfl, hsz⟩ := okWide_struct Tryz.underlying26 hv; obtain ⟨fuel, hf⟩ := h; obtain ⟨t, ⟨h1, h2⟩, _⟩ := open_ty hf; refine ⟨t, ?_, h2⟩
 have : cs = (tyL t).toArray := by
  rw [<- h1]; simp [Value.cells]
 rw [this]; rfl
end Ox
open Go.RowKit
namespace Lx
open Pp Hr
theorem known_some {cs : List XCls} (he : errL cs = 0) {a : Bs} (h : Known cs a) : (placeL (allL cs) a).isSome = true := by
 obtain ⟨p, c, hc, rfl⟩ := h; obtain ⟨_, ho, _⟩ := err_zero he; rw [ho p c hc]; rfl
theorem right_known3 {cs : List XCls} (he : errL cs = 0) {a : Bs} (h : Known cs a) : rightL (allL cs) 3 a = true := by
 unfold rightL; rw [if_neg (by decide), if_pos (by decide)]
 exact known_some he h
theorem right_obj {cs : List XCls} (he : errL cs = 0) : rightL (allL cs) 3 objN = true := right_known3 he (class_obj cs).known
theorem right_plain {cs : List XCls} {k : Int} {n : Bs} (h : rightL (allL cs) k n = true) (hk : plainK k = true) : n = [] := by
 unfold rightL at h; rw [if_pos hk] at h
 simpa using h
theorem refB_no {k : Int} (h : ¬ refB k = true) : (k != 2 && k != 7) = false := by
 unfold refB at h
 simpa using h
theorem meet_ways {cs : List XCls} {ka kb : Int} {na nb : Bs} (C : Int × Bs -> Prop)
 (h0 : ka = kb -> na = nb -> C (ka, na))
 (h1 : ¬ (ka = kb /\ na = nb) -> (refB ka = false \/ refB kb = false) -> C (7, []))
 (h2 : ¬ (ka = kb /\ na = nb) -> refB ka = true -> refB kb = true -> ka = 6 -> C (kb, nb))
 (h3 : ¬ (ka = kb /\ na = nb) -> refB ka = true -> refB kb = true -> ka ≠ 6 -> kb = 6 -> C (ka, na))
 (h4 : ¬ (ka = kb /\ na = nb) -> ka = 3 -> kb = 3 -> C (3, meetN cs na nb))
 (h5 : ¬ (ka = kb /\ na = nb) -> refB ka = true -> refB kb = true -> ka ≠ 6 -> kb ≠ 6 -> ¬ (ka = 3 /\ kb = 3) -> C (3, objN)) : C (meetL cs ka kb na nb) := by
 unfold meetL; by_cases e : ka = kb /\ na = nb
 · rw [if_pos e]; exact h0 e.1 e.2
 rw [if_neg e]; by_cases r : (ka != 2 && ka != 7) = false \/ (kb != 2 && kb != 7) = false
 · rw [if_pos r]; exact h1 e r
 rw [if_neg r]
 have ra : refB ka = true := by
  cases q : refB ka with
  | true => rfl
  | false => exact absurd (.inl q) r
 have rb : refB kb = true := by
  cases q : refB kb with
  | true => rfl
  | false => exact absurd (.inr q) r
 by_cases a6 : ka = 6
 · rw [if_pos a6]; exact h2 e ra rb a6
 rw [if_neg a6]; by_cases b6 : kb = 6
 · rw [if_pos b6]; exact h3 e ra rb a6 b6
 rw [if_neg b6]; by_cases t : ka = 3 /\ kb = 3
 · rw [if_pos t]; exact h4 e t.1 t.2
 rw [if_neg t]; exact h5 e ra rb a6 b6 t
theorem meetL_eq {cs : List XCls} {k : Int} {n : Bs} : meetL cs k k n n = (k, n) := by unfold meetL; exact if_pos ⟨rfl, rfl⟩
theorem meetL_none {cs : List XCls} {ka kb : Int} {na nb : Bs} (e : ¬ (ka = kb /\ na = nb)) (r : refB ka = false \/ refB kb = false) : meetL cs ka kb na nb = (7, []) := by
 unfold meetL; rw [if_neg e]; exact if_pos r
theorem refs_no {ka kb : Int} (ra : refB ka = true) (rb : refB kb = true) : ¬ ((ka != 2 && ka != 7) = false \/ (kb != 2 && kb != 7) = false) := by
 rintro (h | h)
 · exact absurd (ra.symm.trans h) (by decide)
 · exact absurd (rb.symm.trans h) (by decide)
theorem meetL_fst {cs : List XCls} {ka kb : Int} {na nb : Bs} (e : ¬ (ka = kb /\ na = nb)) (ra : refB ka = true) (rb : refB kb = true) (h : ka = 6) : meetL cs ka kb na nb = (kb, nb) := by
 unfold meetL; rw [if_neg e, if_neg (refs_no ra rb)]; exact if_pos h
theorem meetL_snd {cs : List XCls} {ka kb : Int} {na nb : Bs} (e : ¬ (ka = kb /\ na = nb)) (ra : refB ka = true) (rb : refB kb = true) (h6 : ka ≠ 6) (h : kb = 6) : meetL cs ka kb na nb = (ka, na) := by
 unfold meetL; rw [if_neg e, if_neg (refs_no ra rb), if_neg h6]; exact if_pos h
theorem meetL_refs {cs : List XCls} {ka kb : Int} {na nb : Bs} (e : ¬ (ka = kb /\ na = nb)) (ha : ka = 3) (hb : kb = 3) : meetL cs ka kb na nb = (3, meetN cs na nb) := by
 unfold meetL; rw [if_neg e, if_neg (refs_no (by rw [ha]; rfl) (by rw [hb]; rfl)), if_neg (by rw [ha]; decide), if_neg (by rw [hb]; decide)]
 exact if_pos ⟨ha, hb⟩
theorem meetL_top {cs : List XCls} {ka kb : Int} {na nb : Bs} (e : ¬ (ka = kb /\ na = nb)) (ra : refB ka = true) (rb : refB kb = true) (a6 : ka ≠ 6) (b6 : kb ≠ 6) (t : ¬ (ka = 3 /\ kb = 3)) : meetL cs ka kb na nb = (3, objN) := by
 unfold meetL; rw [if_neg e, if_neg (refs_no ra rb), if_neg a6, if_neg b6]; exact if_neg t
section
variable {cs : List XCls} {ka kb : Int} {na nb : Bs} (he : errL cs = 0) (ha : rightL (allL cs) ka na = true) (hb : rightL (allL cs) kb nb = true)
include he ha hb
theorem meet_right : rightL (allL cs) (meetL cs ka kb na nb).1 (meetL cs ka kb na nb).2 = true := by
 refine meet_ways (fun m => rightL (allL cs) m.1 m.2 = true) ?_ ?_ ?_ ?_ ?_ ?_
 · intro _ _; exact ha
 · intro _ _; rfl
 · intro _ _ _ _; exact hb
 · intro _ _ _ _ _; exact ha
 · intro _ h1 h2; exact right_known3 he (meetN_known he (right_known ha h1) (right_known hb h2))
 · intro _ _ _ _ _ _; exact right_obj he
theorem meet_fits1 : fitsH cs ka (meetL cs ka kb na nb).1 na (meetL cs ka kb na nb).2 = true := by
 refine meet_ways (fun m => fitsH cs ka m.1 na m.2 = true) ?_ ?_ ?_ ?_ ?_ ?_
 · intro _ _; exact fits_self _ _ _
 · intro _ _; exact fits_nothing _ _ _ _
 · intro e ra rb h6
   show fitsH cs ka kb na nb = true; unfold fitsH; rw [if_neg (fun h => h.elim e fun h => by rw [h] at rb; exact absurd rb (by decide)), if_pos (.inl h6), ra, rb]; rfl
 · intro _ _ _ _ _; exact fits_self _ _ _
 · intro _ h1 h2
   show fitsH cs ka 3 na (meetN cs na nb) = true; unfold fitsH
   split
   · rfl
   · split
     · rw [h1]; rfl
     · rw [h1, (underB_iff _ _ _).2 (meet_low he (right_known ha h1) (right_known hb h2))]; rfl
 · intro _ ra _ _ _ _
   show fitsH cs ka 3 na objN = true; unfold fitsH
   split
   · rfl
   · rw [if_pos (.inr ⟨rfl, rfl⟩), ra]; rfl
theorem meet_fits2 : fitsH cs kb (meetL cs ka kb na nb).1 nb (meetL cs ka kb na nb).2 = true := by
 refine meet_ways (fun m => fitsH cs kb m.1 nb m.2 = true) ?_ ?_ ?_ ?_ ?_ ?_
 · intro h1 h2; rw [h1, h2]; exact fits_self _ _ _
 · intro _ _; exact fits_nothing _ _ _ _
 · intro _ _ _ _; exact fits_self _ _ _
 · intro e ra rb _ h6
   show fitsH cs kb ka nb na = true; unfold fitsH; rw [if_neg (fun h => h.elim (fun h => e ⟨h.1.symm, h.2.symm⟩) fun h => by rw [h] at ra; exact absurd ra (by decide)), if_pos (.inl h6), ra, rb]; rfl
 · intro _ h1 h2
   show fitsH cs kb 3 nb (meetN cs na nb) = true; unfold fitsH
   split
   · rfl
   · split
     · rw [h2]; rfl
     · rw [h2, (underB_iff _ _ _).2 (meet_high he (right_known ha h1) (right_known hb h2))]; rfl
 · intro _ _ rb _ _ _
   show fitsH cs kb 3 nb objN = true; unfold fitsH
   split
   · rfl
   · rw [if_pos (.inr ⟨rfl, rfl⟩), rb]; rfl
theorem meet_swap : meetL cs ka kb na nb = meetL cs kb ka nb na := by
 refine meet_ways (fun m => m = meetL cs kb ka nb na) ?_ ?_ ?_ ?_ ?_ ?_
 · intro h1 h2; rw [h1, h2, meetL_eq]
 · intro e r; exact (meetL_none (fun h => e ⟨h.1.symm, h.2.symm⟩) r.symm).symm
 · intro e ra rb h6
   by_cases b6 : kb = 6
   · exfalso
     rw [h6] at ha; rw [b6] at hb; exact e ⟨h6.trans b6.symm, (right_plain ha rfl).trans (right_plain hb rfl).symm⟩
   · exact (meetL_snd (fun h => e ⟨h.1.symm, h.2.symm⟩) rb ra b6 h6).symm
 · intro e ra rb _ b6; exact (meetL_fst (fun h => e ⟨h.1.symm, h.2.symm⟩) rb ra b6).symm
 · intro e h1 h2
   rw [meetL_refs (fun h => e ⟨h.1.symm, h.2.symm⟩) h2 h1, meet_comm he (right_known ha h1) (right_known hb h2)]
 · intro e ra rb a6 b6 t; exact (meetL_top (fun h => e ⟨h.1.symm, h.2.symm⟩) rb ra b6 a6 (fun h => t ⟨h.2, h.1⟩)).symm
theorem meet_fit (hf : fitsH cs ka kb na nb = true) : meetL cs ka kb na nb = (kb, nb) := by
 by_cases e : ka = kb /\ na = nb
 · rw [e.1, e.2, meetL_eq]
 unfold fitsH at hf; by_cases b7 : kb = 7
 · rw [b7] at hb
   rw [meetL_none e (.inr (by rw [b7]; rfl)), b7, right_plain hb rfl]
 rw [if_neg (fun h => h.elim e b7)] at hf; by_cases g : ka = 6 \/ (kb = 3 /\ nb = objN)
 · rw [if_pos g] at hf
   simp only [Bool.and_eq_true] at hf; by_cases a6 : ka = 6
   · exact meetL_fst e hf.1 hf.2 a6
   · obtain ⟨h3, ho⟩ := g.resolve_left a6
     by_cases a3 : ka = 3
     · rw [meetL_refs e a3 h3, ho, h3]
       rw [meet_under ((underB_iff _ _ _).2 (top_under he (right_known ha a3)))]
     · rw [meetL_top e hf.1 hf.2 a6 (by rw [h3]; decide) (fun h => a3 h.1), ho, h3]
 · rw [if_neg g] at hf
   simp only [Bool.and_eq_true, beq_iff_eq] at hf; obtain ⟨a3, b3, hu⟩ := hf; rw [meetL_refs e a3 b3, meet_under hu, b3]
end
theorem base_short : ∀ c ∈ base, c.name.length <= 60 := by decide
theorem known_len {cs : List XCls} (hl : Light cs) {a : Bs} (h : Known cs a) : a.length <= maxLen := by
 obtain ⟨p, c, hc, rfl⟩ := h; have hm := List.mem_of_getElem? hc
 have : c.name.length <= 60 := by
  rcases List.mem_append.1 hm with h | h
  · exact base_short c h
  · exact (hl.2 c h).1.2.2.2.1
 unfold maxLen; omega
theorem meet_len {cs : List XCls} (hl : Light cs) (he : errL cs = 0) {ka kb : Int} {na nb : Bs} (ha : rightL (allL cs) ka na = true) (hb : rightL (allL cs) kb nb = true) (h1 : na.length <= maxLen) (h2 : nb.length <= maxLen) : (meetL cs ka kb na nb).2.length <= maxLen := by
 refine meet_ways (fun m => m.2.length <= maxLen) ?_ ?_ ?_ ?_ ?_ ?_
 · intro _ _; exact h1
 · intro _ _; exact Nat.zero_le _
 · intro _ _ _ _; exact h2
 · intro _ _ _ _ _; exact h1
 · intro _ h3 h4; exact known_len hl (meetN_known he (right_known ha h3) (right_known hb h4))
 · intro _ _ _ _ _ _; exact known_len hl (class_obj cs).known
theorem meetX_yes {cs : List XCls} (he : Ly.layE cs = 0) {a b : Ty} (ha : rightT cs a = true) (hb : rightT cs b = true) : meetX cs a b = (meetL cs a.kind b.kind a.name b.name, 0) := by
 unfold meetX; exact if_pos (look_two' he ha hb)
end Lx
namespace Lx
open Pp Hr
theorem base_names : ∀ c ∈ base, c.name ≠ [] := by decide
theorem name_ne {cs : List XCls} (he : errL cs = 0) {a : Bs} (h : Known cs a) : a ≠ [] := by
 obtain ⟨p, c, hc, rfl⟩ := h; have hm := List.mem_of_getElem? hc; obtain ⟨hp, _⟩ := err_zero he
 rcases List.mem_append.1 hm with h | h
 · exact base_names c h
 · unfold progB at hp
   rw [eachB_iff] at hp; have h1 := hp.2 c h; unfold clsB at h1; simp only [Bool.and_eq_true] at h1; have h2 := ((freshB_iff _).1 h1.1).1; intro e; rw [e] at h2; exact absurd h2 (by decide)
theorem right_rows {cs : List XCls} (he : errL cs = 0) {a : Bs} (h : Known cs a) : rightL (allL cs) 5 a = true := by
 unfold rightL; rw [if_neg (by decide), if_pos (by decide)]
 exact known_some he h
theorem right_int {cs : List XCls} (he : errL cs = 0) {a : Bs} (h : Known cs a) : rightL (allL cs) 2 a = false := by
 unfold rightL; rw [if_pos (by decide)]
 cases a with
 | nil => exact absurd rfl (name_ne he h)
 | cons x a => rfl
theorem right_void (cs : List XCls) : rightL (allL cs) 1 [] = false := rfl
theorem known_err (cs : List XCls) : Known cs errN := ⟨1, plain errN objN, rfl, rfl⟩
theorem meetL_known {cs : List XCls} (he : errL cs = 0) {a b : Bs} (ha : Known cs a) : meetL cs 3 3 a b = (3, meetN cs a b) := by
 by_cases e : a = b
 · subst e
   rw [meetL_eq, meet_under ((underB_iff _ _ _).2 (self_under he ha))]
 · exact meetL_refs (fun h => e h.2) rfl rfl
theorem right_find {cs : List XCls} (he : errL cs = 0) (a : Bs) : rightL (allL cs) 3 a = (Hr.lookL cs a).isSome := by
 rw [lookL_yes he]; unfold rightL; rw [if_neg (by decide), if_pos (by decide)]
end Lx
theorem find_shape {w0 w : World} {base : Nat} {cs : List Pp.XCls} {nm : Pp.Bs} {e : Ending} (h : Hr.FindIs w0 w base cs nm e) :
 ∃ s0 b1 s2 a3 n3 c3 a4 n4 c4 a5 n5 c5, e = .returned (.tuple #[.agg #[.string s0, .bool b1, .string s2, .slice a3 n3 c3, .slice a4 n4 c4, .slice a5 n5 c5], .bool (Hr.lookL cs nm).isSome]) := by
 unfold Hr.FindIs at h; cases hk : Hr.lookL cs nm with
 | none => rw [hk] at h; exact ⟨_, _, _, _, _, _, _, _, _, _, _, _, h⟩
 | some k =>
   rw [hk] at h; obtain ⟨c, ys, _, rfl, vi, vf, vm, rfl, q1, q2, q3, _⟩ := h; obtain ⟨_, _, rfl⟩ := q1.shape; obtain ⟨_, _, rfl⟩ := q2.shape; obtain ⟨_, _, rfl⟩ := q3.shape; exact ⟨_, _, _, _, _, _, _, _, _, _, _, _, rfl⟩
theorem mod_at (n : Int) (c : Nat) (hc : 0 < c) (hc2 : c <= 100000) : ∃ m : Nat, m < c /\ wrap64 ((IntKind.u64.wrap n).tmod (c : Int)) = (m : Int) := by
 have h0 : 0 <= IntKind.u64.wrap n := by
  rw [IntKind.wrap_u64]; omega
 generalize IntKind.u64.wrap n = u at h0; have h1 : 0 <= u.tmod (c : Int) := Int.tmod_nonneg _ h0; have h2 : u.tmod (c : Int) < (c : Int) := Int.tmod_lt_of_pos _ (by omega)
 generalize u.tmod (c : Int) = r at h1 h2; refine ⟨r.toNat, by omega, ?_⟩
 unfold wrap64; omega
end Go.Proofs.YtbbbnciejmdpfaaGreatDoor

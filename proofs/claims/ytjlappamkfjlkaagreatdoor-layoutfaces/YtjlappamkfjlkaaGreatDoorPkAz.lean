/- What the laws of this seat lean on: 6 texts. -/
import Derived.Test.YtjlappamkfjlkaaGreatDoorPkAe
import Derived.Test.YtjlappamkfjlkaaGreatDoorCards
import Derived.Test.YtjlappamkfjlkaaGreatDoorTie
import Derived.ProofKit
import Derived.OpenShut
import Derived.Deep.DeepHandedRow
import Derived.Lib.LaidTab
import Derived.LaidSub
import Derived.ChangeOld
import Derived.ShutString
import Derived.Test.YtjlappamkfjlkaaGreatDoorPkAa
import Derived.Deep.Slices
import Derived.Test.YtjlappamkfjlkaaGreatDoorPkAn
import Derived.Test.YtjlappamkfjlkaaGreatDoorPkAv
set_option maxRecDepth 100000
set_option maxHeartbeats 64000000
set_option linter.unusedVariables false
set_option linter.unusedSimpArgs false
namespace Go.Proofs.YtjlappamkfjlkaaGreatDoor
open Go.ChangeShapes Go.WideShapes Go.ChangeAt Go.RowKit
theorem own : ownKnob Tryz.prog.godebug = none := by kernel_rfl
theorem laidOut : laidOutB Tryz.prog = true := by kernel_rfl
def strsData {H : Type} (ls : List (List UInt8)) : DataW H := .agg (ls.map fun l => .lit (.string l))
theorem cells_of_strs {H : Type} {enc : TypeId × Value -> H} {P : Program} {w : World} {base : Nat} {sp : Nat -> Bool} {held : Bool} {fuel : Nat} {t e : TypeId} {n : Nat} {cs : List Value} {ls : List (List UInt8)} {p : List MemPlace}
 (ht : P.underlying t = some (.array n e)) (he : P.underlying e = some .string) (hce : P.cellsOf e = 1) (hct : P.cellsOf t = n)
 (h : DataW.trod enc P w base sp held fuel t cs = some (strsData ls, p)) : cs = ls.map fun l => Value.string ⟨l.toArray⟩ := by
 cases fuel with
 | zero => simp [DataW.trod] at h
 | succ fuel =>
   simp only [DataW.trod, ht, hce, hct, Nat.mul_one] at h
   split at h
   · rename_i hl
     obtain ⟨xs, hm, hx⟩ := Option.map_eq_some_iff.1 h
     have hxs : xs.map (·.1) = ls.map fun l => (DataW.lit (.string l) : DataW H) := by
      have := congrArg Prod.fst hx
      simpa [strsData] using this
     have hxl : xs.length = n := by simpa using Lib.mapM_length hm
     have hzl : ls.length = n := by
      have := congrArg List.length hxs; simp at this; omega
     apply List.ext_getElem?; intro i; by_cases hi : i < n
     · obtain ⟨b, hb, hf⟩ := Lib.mapM_at hm i i (by simp [hi])
       obtain ⟨z, hc, rfl, _⟩ := DataW.trod_string he hf
       have h1 : cs[i]? = some (.string z) := by
        have := congrArg (·[0]?) hc
        simpa [List.getElem?_take, List.getElem?_drop] using this
       have h2 : (xs.map (·.1))[i]? = some (DataW.lit (.string z.data.toList) : DataW H) := by simp [hb]
       rw [hxs] at h2; simp only [List.getElem?_map, Option.map_eq_some_iff, DataW.lit.injEq, Lit.string.injEq] at h2; obtain ⟨z', hz', e'⟩ := h2; rw [h1, List.getElem?_map, hz']; simp [e']
     · rw [List.getElem?_eq_none (by omega), List.getElem?_eq_none (by simp; omega)]
   · cases h
theorem strs_of_head {P : Program} {W : World} {name : String} {ls : List (List UInt8)} {g : Nat} {t e : TypeId} {n : Nat}
 (hg : P.globalNamed name = some g) (hty : (P.globals[g]?).map (·.type) = some t) (ht : P.underlying t = some (.array n e)) (he : P.underlying e = some .string) (hce : P.cellsOf e = 1) (hct : P.cellsOf t = n)
 (h : laidMet P [(name, strsData ls)] W) : ∀ i l, ls[i]? = some l -> W.cell? ⟨g, i, none⟩ = some (strV l) := by
 obtain ⟨ps, ⟨g', t', cs, fuel, p, q, hg', ht', hvar, hd, _, _⟩, _⟩ := h; obtain rfl := Option.some.inj (hg.symm.trans hg'); obtain rfl := Option.some.inj (hty.symm.trans ht'); have hcs := cells_of_strs ht he hce hct hd; intro i l hl; have h1 := World.var?_cell hg hvar i; rw [h1]; have h2 : cs.toList[i]? = some (Value.string ⟨l.toArray⟩) := by rw [hcs]; simp [hl]
 simpa [strV] using h2
theorem keptData : (Rows.laid_delver_parse_kept : DataW Unit) = strsData Pp.keptWords := by kernel_rfl
theorem wordsData : (Rows.laid_delver_parse_words : DataW Unit) = strsData Pp.opWords := by kernel_rfl
theorem table {W : World} {laid : List (String × DataW Unit)} (h : laidMetH Tryz.prog laid W) (e1 : (laid.filter fun x => x.1 == "delver/parse.kept") = [("delver/parse.kept", Rows.laid_delver_parse_kept)]) (e2 : (laid.filter fun x => x.1 == "delver/parse.words") = [("delver/parse.words", Rows.laid_delver_parse_words)]) : TabS W := by
 have h1 := h.filter fun x => x.1 == "delver/parse.kept"; rw [e1, keptData] at h1; have h2 := h.filter fun x => x.1 == "delver/parse.words"; rw [e2, wordsData] at h2; have g1 : laidMet Tryz.prog [("delver/parse.kept", strsData Pp.keptWords)] W := h1; have g2 : laidMet Tryz.prog [("delver/parse.words", strsData Pp.opWords)] W := h2; exact ⟨strs_of_head (by kernel_rfl) (by kernel_rfl) Tryz.underlying220 Tryz.underlying9 (by kernel_rfl) (by kernel_rfl) g2, strs_of_head (by kernel_rfl) (by kernel_rfl) Tryz.underlying211 Tryz.underlying9 (by kernel_rfl) (by kernel_rfl) g1⟩
def valOf : DataW Unit -> Value
 | .lit (.int k n) => .int k n
 | .lit (.string l) => .string ⟨l.toArray⟩
 | _ => undef
def tabCells : DataW Unit -> Array Value
 | .agg ds => (ds.map valOf).toArray
 | _ => #[]
def putTab (d : DataW Unit) : Obj -> Obj
 | .cells _ t f => .cells (tabCells d) t f
 | o => o
def laidWorld (P : Program) (os : Os) : World :=
 { World.holding P os ⟨#[], #[], []⟩ with heap := ((World.holding P os ⟨#[], #[], []⟩).heap.modify 1 (putTab Rows.laid_delver_parse_words)).modify 0 (putTab Rows.laid_delver_parse_kept) }
namespace Ox
section
variable {H : Type} {enc : TypeId × Value -> H} {w : World} {base : Nat} {spare : Nat -> Bool} {held : Bool}
theorem choose_any {α : Type} {n : Nat} {p : Nat -> α -> Prop} (h0 : 0 < n) (h : ∀ i, i < n -> ∃ x, p i x) : ∃ f : Nat -> α, ∀ i, i < n -> p i (f i) := by
 refine ⟨fun i => if hi : i < n then Classical.choose (h i hi) else Classical.choose (h 0 h0), fun i hi => ?_⟩
 simp only [dif_pos hi]; exact Classical.choose_spec (h i hi)
theorem toL (s : ByteArray) : s.data.toList.length = s.size := by rw [Array.length_toList]; rfl
theorem open_row {α : Type} {P : α -> List Value -> Prop} {t e : TypeId} {sz fuel : Nat} {v : Value} {x : DataW H × List MemPlace} (ht : Tryz.prog.underlying t = some (.slice e)) (hc : Tryz.prog.cellsOf e = sz) (hsz : 0 < sz)
 (hel : ∀ (n : Nat) (cs : List Value) (x : DataW H × List MemPlace), DataW.trod enc Tryz.prog w base spare held n e cs = some x -> ∃ a, P a cs /\ cs.length = sz)
 (h : DataW.trod enc Tryz.prog w base spare held fuel t [v] = some x) : ∃ l : List α, RowX w sz P v l /\ l.length <= maxLen := by
 rcases Deep.open_slice ht h with ⟨hcs, _⟩ | ⟨x, l, c, m, n, D, Pl, hcs, hb, hl, hm, hmm, _, hx⟩
 · simp at hcs
   subst hcs; exact ⟨[], ⟨none, 0, rfl, Nat.le_refl _, .inl rfl⟩, Nat.zero_le _⟩
 · simp at hcs
   subst hcs
   rcases Nat.eq_zero_or_pos l with h0 | h0
   · subst h0
     exact ⟨[], ⟨some x, c, rfl, Nat.zero_le _, .inl rfl⟩, Nat.zero_le _⟩
   have hlm : l <= m := by rw [hmm]; split <;> omega
   have each : ∀ i, i < l -> ∃ (a : α × List Value), P a.1 a.2 /\ a.2.length = sz /\ ∀ (j : Nat) (u : Value), a.2[j]? = some u -> w.cell? (x.add (i * sz + j)) = some u := by
    intro i hi; obtain ⟨cs', h1, h2⟩ := hx i (by omega)
    rw [hc] at h1; obtain ⟨a, ha, hal⟩ := hel _ _ _ h2; obtain ⟨_, _, hcell⟩ := World.cells?_some h1; refine ⟨(a, cs'), ha, hal, fun j u hj => ?_⟩
    have hjl : j < sz := by
     rw [<- hal]
     rcases Nat.lt_or_ge j cs'.length with h | h
     · exact h
     · simp only at hj; rw [List.getElem?_eq_none h] at hj; cases hj
    have e1 := hcell j hjl; rw [Deep.add_add] at e1; rw [e1]; exact hj
   obtain ⟨T, hT⟩ := choose_any h0 each
   have hget : ∀ j a, ((List.range l).map fun i => (T i).1)[j]? = some a -> j < l /\ a = (T j).1 := by
    intro j a hj
    have hjl : j < l := by
     rcases Nat.lt_or_ge j l with h | h
     · exact h
     · rw [List.getElem?_eq_none (by simpa using h)] at hj; cases hj
    rw [List.getElem?_map, List.getElem?_range hjl] at hj; simp at hj; exact ⟨hjl, hj.symm⟩
   have hne : ∃ u, (T 0).2[0]? = some u := by
    have := (hT 0 h0).2.1; exact ⟨(T 0).2[0]'(by omega), List.getElem?_eq_getElem _⟩
   obtain ⟨u, hu⟩ := hne; have h00 := (hT 0 h0).2.2 0 u hu; obtain ⟨b, off, spot⟩ := x; have hspot : spot = none := by simpa [Addr.add] using World.cell?_spot h00
   subst hspot; refine ⟨(List.range l).map fun i => (T i).1, ⟨some ⟨b, off, none⟩, c, by simp, by simpa using hl, .inr ⟨b, off, rfl, by simpa [Addr.add] using World.block_lt_of_cell? w _ h00, fun j a hj => ?_⟩⟩, by simp; omega⟩
   obtain ⟨hjl, rfl⟩ := hget j a hj; refine ⟨(T j).2, (hT j hjl).1, fun i u hi => ?_⟩; have := (hT j hjl).2.2 i u hi; rw [Go.WideShapes.add_plain, <- Nat.add_assoc] at this; exact this
theorem open_str {n : Nat} {cs : List Value} {x : DataW H × List MemPlace} (h : DataW.trod enc Tryz.prog w base spare held n 9 cs = some x) : ∃ s : Pp.Bs, StrX s cs /\ cs.length = 1 := by
 obtain ⟨s, rfl, _, hs⟩ := DataW.trod_string Tryz.underlying9 h; exact ⟨s.data.toList, ⟨rfl, by rw [toL]; exact hs⟩, rfl⟩
theorem c_int : Tryz.prog.cellsOf 3 = 1 := by kernel_rfl
theorem c_str : Tryz.prog.cellsOf 9 = 1 := by kernel_rfl
theorem c_bool : Tryz.prog.cellsOf 4 = 1 := by kernel_rfl
theorem c_ty : Tryz.prog.cellsOf 35 = 2 := by kernel_rfl
theorem c_fld : Tryz.prog.cellsOf 72 = 4 := by kernel_rfl
theorem c_ins : Tryz.prog.cellsOf 75 = 4 := by kernel_rfl
theorem c_ctc : Tryz.prog.cellsOf 77 = 4 := by kernel_rfl
theorem c_mth : Tryz.prog.cellsOf 39 = 9 := by kernel_rfl
theorem c_cls : Tryz.prog.cellsOf 59 = 6 := by kernel_rfl
theorem c_prog : Tryz.prog.cellsOf 24 = 1 := by kernel_rfl
theorem c_strs : Tryz.prog.cellsOf 55 = 1 := by kernel_rfl
theorem c_tys : Tryz.prog.cellsOf 33 = 1 := by kernel_rfl
theorem c_flds : Tryz.prog.cellsOf 56 = 1 := by kernel_rfl
theorem c_inss : Tryz.prog.cellsOf 36 = 1 := by kernel_rfl
theorem c_ctcs : Tryz.prog.cellsOf 37 = 1 := by kernel_rfl
theorem c_mths : Tryz.prog.cellsOf 57 = 1 := by kernel_rfl
theorem c_clss : Tryz.prog.cellsOf 22 = 1 := by kernel_rfl
theorem open_ty {n : Nat} {cs : List Value} {x : DataW H × List MemPlace} (h : DataW.trod enc Tryz.prog w base spare held n 35 cs = some x) : ∃ t : Pp.Ty, TyX t cs /\ cs.length = 2 := by
 obtain ⟨xs, k, _, _, hlen, hxl, hf⟩ := DataW.trod_struct Tryz.underlying35 h; rw [c_ty] at hlen
 match xs, hxl, cs, hlen with
 | [y0, y1], _, [v0, v1], _ =>
   have g0 := hf 0 _ rfl; have g1 := hf 1 _ rfl; simp [c_int, c_str] at g0 g1; obtain ⟨n0, e0, _, _⟩ := DataW.trod_int Tryz.underlying3 g0; obtain ⟨s1, e1, _, hs⟩ := DataW.trod_string Tryz.underlying9 g1; simp at e0 e1; subst e0 e1; exact ⟨⟨n0, s1.data.toList⟩, ⟨rfl, by rw [toL]; exact hs⟩, rfl⟩
theorem open_fld {n : Nat} {cs : List Value} {x : DataW H × List MemPlace} (h : DataW.trod enc Tryz.prog w base spare held n 72 cs = some x) : ∃ t : Pp.Fld, FldX t cs /\ cs.length = 4 := by
 obtain ⟨xs, k, _, _, hlen, hxl, hf⟩ := DataW.trod_struct Tryz.underlying72 h; rw [c_fld] at hlen
 match xs, hxl, cs, hlen with
 | [y0, y1, y2], _, [v0, v1, v2, v3], _ =>
   have g0 := hf 0 _ rfl; have g1 := hf 1 _ rfl; have g2 := hf 2 _ rfl; simp [c_str, c_ty, c_bool] at g0 g1 g2; obtain ⟨s0, e0, _, hs0⟩ := DataW.trod_string Tryz.underlying9 g0; obtain ⟨ty, e1, _⟩ := open_ty g1; obtain ⟨b, e2, _⟩ := DataW.trod_bool Tryz.underlying4 g2; obtain ⟨e1, hty⟩ := e1; simp [tyL] at e0 e1 e2; obtain ⟨e11, e12⟩ := e1; subst e0 e11 e12 e2; exact ⟨⟨s0.data.toList, ty, b⟩, ⟨rfl, by rw [toL]; exact hs0, hty⟩, rfl⟩
theorem open_ins {n : Nat} {cs : List Value} {x : DataW H × List MemPlace} (h : DataW.trod enc Tryz.prog w base spare held n 75 cs = some x) : ∃ t : Pp.XIns, InsX t cs /\ cs.length = 4 := by
 obtain ⟨xs, k, _, _, hlen, hxl, hf⟩ := DataW.trod_struct Tryz.underlying75 h; rw [c_ins] at hlen
 match xs, hxl, cs, hlen with
 | [y0, y1, y2, y3], _, [v0, v1, v2, v3], _ =>
   have g0 := hf 0 _ rfl; have g1 := hf 1 _ rfl; have g2 := hf 2 _ rfl; have g3 := hf 3 _ rfl; simp [c_int, c_str] at g0 g1 g2 g3; obtain ⟨n0, e0, _, _⟩ := DataW.trod_int Tryz.underlying3 g0; obtain ⟨n1, e1, _, _⟩ := DataW.trod_int Tryz.underlying3 g1; obtain ⟨s2, e2, _, hs2⟩ := DataW.trod_string Tryz.underlying9 g2; obtain ⟨s3, e3, _, hs3⟩ := DataW.trod_string Tryz.underlying9 g3; simp at e0 e1 e2 e3; subst e0 e1 e2 e3; exact ⟨⟨n0, n1, s2.data.toList, s3.data.toList⟩, ⟨rfl, by rw [toL]; exact hs2, by rw [toL]; exact hs3⟩, rfl⟩
theorem open_ctc {n : Nat} {cs : List Value} {x : DataW H × List MemPlace} (h : DataW.trod enc Tryz.prog w base spare held n 77 cs = some x) : ∃ t : Pp.Ctc, CtcX t cs /\ cs.length = 4 := by
 obtain ⟨xs, k, _, _, hlen, hxl, hf⟩ := DataW.trod_struct Tryz.underlying77 h; rw [c_ctc] at hlen
 match xs, hxl, cs, hlen with
 | [y0, y1, y2, y3], _, [v0, v1, v2, v3], _ =>
   have g0 := hf 0 _ rfl; have g1 := hf 1 _ rfl; have g2 := hf 2 _ rfl; have g3 := hf 3 _ rfl; simp [c_int, c_str] at g0 g1 g2 g3; obtain ⟨s0, e0, _, hs0⟩ := DataW.trod_string Tryz.underlying9 g0; obtain ⟨n1, e1, _, _⟩ := DataW.trod_int Tryz.underlying3 g1; obtain ⟨n2, e2, _, _⟩ := DataW.trod_int Tryz.underlying3 g2; obtain ⟨n3, e3, _, _⟩ := DataW.trod_int Tryz.underlying3 g3; simp at e0 e1 e2 e3; subst e0 e1 e2 e3; exact ⟨⟨s0.data.toList, n1, n2, n3⟩, ⟨rfl, by rw [toL]; exact hs0⟩, rfl⟩
theorem open_mth {n : Nat} {cs : List Value} {x : DataW H × List MemPlace} (h : DataW.trod enc Tryz.prog w base spare held n 39 cs = some x) : ∃ t : Pp.XMth, MthX w t cs /\ cs.length = 9 := by
 obtain ⟨xs, k, _, _, hlen, hxl, hf⟩ := DataW.trod_struct Tryz.underlying39 h; rw [c_mth] at hlen
 match xs, hxl, cs, hlen with
 | [y0, y1, y2, y3, y4, y5, y6, y7], _, [v0, v1, v2, v3, v4, v5, v6, v7, v8], _ =>
   have g0 := hf 0 _ rfl; have g1 := hf 1 _ rfl; have g2 := hf 2 _ rfl; have g3 := hf 3 _ rfl; have g4 := hf 4 _ rfl; have g5 := hf 5 _ rfl; have g6 := hf 6 _ rfl; have g7 := hf 7 _ rfl; simp [c_str, c_bool, c_tys, c_ty, c_int, c_inss, c_ctcs] at g0 g1 g2 g3 g4 g5 g6 g7; obtain ⟨s0, e0, _, hs0⟩ := DataW.trod_string Tryz.underlying9 g0; obtain ⟨b1, e1, _⟩ := DataW.trod_bool Tryz.underlying4 g1; obtain ⟨b2, e2, _⟩ := DataW.trod_bool Tryz.underlying4 g2; obtain ⟨ps, hps, lps⟩ := open_row (P := TyX) Tryz.underlying33 c_ty (by omega) (fun n cs x h => open_ty h) g3
   obtain ⟨ty, e4, _⟩ := open_ty g4; obtain ⟨n5, e5, _, _⟩ := DataW.trod_int Tryz.underlying3 g5; obtain ⟨co, hco, lco⟩ := open_row (P := InsX) Tryz.underlying36 c_ins (by omega) (fun n cs x h => open_ins h) g6
   obtain ⟨ca, hca, lca⟩ := open_row (P := CtcX) Tryz.underlying37 c_ctc (by omega) (fun n cs x h => open_ctc h) g7
   obtain ⟨e4, hty⟩ := e4; simp [tyL] at e0 e1 e2 e4 e5; obtain ⟨e41, e42⟩ := e4; subst e0 e1 e2 e41 e42 e5; exact ⟨⟨s0.data.toList, b1, b2, ps, ty, n5, co, ca⟩, ⟨_, _, _, rfl, hps, hco, hca, by rw [toL]; exact hs0, hty, lps, lco, lca⟩, rfl⟩
theorem open_cls {n : Nat} {cs : List Value} {x : DataW H × List MemPlace} (h : DataW.trod enc Tryz.prog w base spare held n 59 cs = some x) : ∃ t : Pp.XCls, ClsX w t cs /\ cs.length = 6 := by
 obtain ⟨xs, k, _, _, hlen, hxl, hf⟩ := DataW.trod_struct Tryz.underlying59 h; rw [c_cls] at hlen
 match xs, hxl, cs, hlen with
 | [y0, y1, y2, y3, y4, y5], _, [v0, v1, v2, v3, v4, v5], _ =>
   have g0 := hf 0 _ rfl; have g1 := hf 1 _ rfl; have g2 := hf 2 _ rfl; have g3 := hf 3 _ rfl; have g4 := hf 4 _ rfl; have g5 := hf 5 _ rfl; simp [c_str, c_bool, c_strs, c_flds, c_mths] at g0 g1 g2 g3 g4 g5; obtain ⟨s0, e0, _, hs0⟩ := DataW.trod_string Tryz.underlying9 g0; obtain ⟨b1, e1, _⟩ := DataW.trod_bool Tryz.underlying4 g1; obtain ⟨s2, e2, _, hs2⟩ := DataW.trod_string Tryz.underlying9 g2; obtain ⟨ifs, hif, lif⟩ := open_row (P := StrX) Tryz.underlying55 c_str (by omega) (fun n cs x h => open_str h) g3
   obtain ⟨fs, hfs, lfs⟩ := open_row (P := FldX) Tryz.underlying56 c_fld (by omega) (fun n cs x h => open_fld h) g4
   obtain ⟨ms, hms, lms⟩ := open_row (P := MthX w) Tryz.underlying57 c_mth (by omega) (fun n cs x h => open_mth h) g5
   simp at e0 e1 e2; subst e0 e1 e2; exact ⟨⟨s0.data.toList, b1, s2.data.toList, ifs, fs, ms⟩, ⟨_, _, _, rfl, hif, hfs, hms, by rw [toL]; exact hs0, by rw [toL]; exact hs2, lif, lfs, lms⟩, rfl⟩
theorem open_prog {r : Reach} {b0 : Nat} {v : Value} {d : DataW H} {p : List MemPlace} (hv : Value.okWide Tryz.prog w r b0 24 v) (h : DataW.Trod enc Tryz.prog w base spare held 24 v d p) : ∃ (u : Value) (cs : List Pp.XCls), v = .agg #[u] /\ ProgX w u cs := by
 obtain ⟨cs, rfl, hsz⟩ := okWide_struct Tryz.underlying24 hv; rw [c_prog] at hsz
 obtain ⟨c0, rfl⟩ : ∃ c0, cs = #[c0] := by
  obtain ⟨l⟩ := cs
  match l, hsz with
  | [x], _ => exact ⟨x, rfl⟩
 obtain ⟨fuel, hf⟩ := h; obtain ⟨xs, k, _, _, hlen, hxl, hf⟩ := DataW.trod_struct Tryz.underlying24 hf
 match xs, hxl with
 | [y0], _ =>
   have g0 := hf 0 _ rfl; simp [c_clss, Value.cells] at g0; obtain ⟨l, hl, ll⟩ := open_row (P := ClsX w) Tryz.underlying22 c_cls (by omega) (fun n cs x h => open_cls h) g0
   exact ⟨c0, l, rfl, hl, ll⟩
end
end Ox
namespace Ox
end Ox
open Go.RowKit
namespace Hr
def underB (cs : List Pp.XCls) (a b : Pp.Bs) : Bool := decide (errL cs = 0) && match growL (allL cs) (allL cs), placeL (allL cs) a, placeL (allL cs) b with
 | some up, some i, some j => i == j || j == 0 || farB up i j
 | _, _, _ => false
theorem underB_iff (cs : List Pp.XCls) (a b : Pp.Bs) : underB cs a b = true ↔ underQ cs a b := by
 unfold underB underQ; by_cases he : errL cs = 0
 · cases hg : growL (allL cs) (allL cs) with
   | none => simp [he]
   | some up =>
     cases ha : placeL (allL cs) a with
     | none => simp [he]
     | some i =>
       cases hb : placeL (allL cs) b with
       | none => simp [he]
       | some j =>
         simp only [he, decide_true, Bool.true_and, Bool.or_eq_true, beq_iff_eq]; rw [farB_iff (grow_low hg)]; constructor
         · intro h; exact ⟨up, i, j, trivial, rfl, rfl, rfl, by rcases h with (h | h) | h <;> simp [h]⟩
         · rintro ⟨_, _, _, _, h1, h2, h3, h⟩
           cases h1; cases h2; cases h3
           rcases h with h | h | h <;> simp [h]
 · simp [he]
def kindsL (cs : List Pp.XCls) (nm : Pp.Bs) (l : List Pp.XCls) : List Pp.Bs := (l.filter fun c => !c.iface && underB cs c.name nm).map fun c => c.name
def kindsQ (cs : List Pp.XCls) (nm : Pp.Bs) : List Pp.Bs := kindsL cs nm cs
theorem kinds_yes {cs l : List Pp.XCls} {nm : Pp.Bs} {k : Nat} {x : Pp.XCls} (hx : l[k]? = some x) (h : x.iface = false /\ underQ cs x.name nm) : kindsL cs nm (l.take (k + 1)) = kindsL cs nm (l.take k) ++ [x.name] := by
 unfold kindsL; rw [List.take_add_one, hx, List.filter_append]; simp [h.1, (underB_iff _ _ _).2 h.2]
theorem kinds_no {cs l : List Pp.XCls} {nm : Pp.Bs} {k : Nat} {x : Pp.XCls} (hx : l[k]? = some x) (h : ¬ (x.iface = false /\ underQ cs x.name nm)) : kindsL cs nm (l.take (k + 1)) = kindsL cs nm (l.take k) := by
 unfold kindsL; rw [List.take_add_one, hx, List.filter_append]
 have h' : (!x.iface && underB cs x.name nm) = false := by
  rw [<- Bool.not_eq_true]; intro h2; rw [Bool.and_eq_true] at h2; exact h ⟨by simpa using h2.1, (underB_iff _ _ _).1 h2.2⟩
 simp [h']
theorem kinds_len (cs l : List Pp.XCls) (nm : Pp.Bs) : (kindsL cs nm l).length <= l.length := by
 unfold kindsL; rw [List.length_map]; exact List.length_filter_le _ _
theorem kinds_none {cs : List Pp.XCls} {nm : Pp.Bs} (h : lookL cs nm = none) : kindsQ cs nm = [] := by
 unfold kindsQ kindsL; rw [List.filter_eq_nil_iff.2 ?_]
 · rfl
 · intro c _ hd
   have hd : c.iface = false /\ underQ cs c.name nm := by
    rw [Bool.and_eq_true] at hd; exact ⟨by simpa using hd.1, (underB_iff _ _ _).1 hd.2⟩
   obtain ⟨_, up, i, j, he, _, _, hp, _⟩ := hd; rw [lookL_yes he, hp] at h; cases h
theorem all_at (cs : List Pp.XCls) (k : Nat) : (allL cs)[8 + k]? = cs[k]? := by
 unfold allL; rw [List.getElem?_append_right (by show 8 <= 8 + k; omega)]
 show cs[8 + k - 8]? = _; rw [Nat.add_sub_cancel_left]
theorem under_at {cs : List Pp.XCls} {up : List (List Nat)} {nm : Pp.Bs} {x : Pp.XCls} {i j : Nat} (he : errL cs = 0) (hg : growL (allL cs) (allL cs) = some up) (hx : (allL cs)[i]? = some x) (hp : placeL (allL cs) nm = some j) : underQ cs x.name nm ↔ (i = j \/ j = 0 \/ Far up i j) := by
 obtain ⟨_, ho, _⟩ := err_zero he; have hi := ho i x hx; constructor
 · rintro ⟨up', i', j', _, hg', h1, h2, h3⟩
   rw [hg] at hg'; cases hg'; rw [hi] at h1; cases h1; rw [hp] at h2; cases h2; exact h3
 · intro h; exact ⟨up, i, j, he, hg, hi, hp, h⟩
end Hr
namespace Ly
open Pp Hr
theorem memF_zero {l : List XCls} {c : XCls} (h : memF l c = 0) : formedB c = true /\ (c.fields.map (·.name)).Nodup /\ (c.methods.map (·.name)).Nodup := by
 unfold memF at h
 split at h
 · rename_i h1
   split at h
   · cases h
   · rename_i h2
     unfold twiceB at h2; simp at h2; exact ⟨h1, h2.1, h2.2⟩
 · cases h
theorem mem_facts {cs : List XCls} (hz : layE cs = 0) {k : Nat} {c : XCls} (h : (allL cs)[k]? = some c) : formedB c = true /\ (c.fields.map (·.name)).Nodup /\ (c.methods.map (·.name)).Nodup := by
 obtain ⟨up, hg⟩ := lay_grow hz; have h1 := (lay_parts hz hg).2.1 k (at_lt h); rw [clP_at h] at h1; exact memF_zero h1
theorem mth_facts {cs : List XCls} (hz : layE cs = 0) {k : Nat} {c : XCls} (h : (allL cs)[k]? = some c) {m : XMth} (hm : m ∈ c.methods) : m.abst = c.iface /\ (c.iface = true -> m.stat = false) := by
 have h1 := (mem_facts hz h).1; unfold formedB at h1; rw [Bool.and_eq_true, List.all_eq_true] at h1; have h2 := h1.2 m hm; unfold mthOk at h2; simp only [Bool.and_eq_true, beq_iff_eq, Bool.not_eq_true', Bool.and_eq_false_iff] at h2; refine ⟨h2.1, fun hi => ?_⟩
 rcases h2.2.1 with h3 | h3
 · rw [hi] at h3; cases h3
 · exact h3
theorem find_self : ∀ {l : List XMth}, (l.map (·.name)).Nodup -> ∀ {m : XMth}, m ∈ l -> l.find? (fun q => q.name == m.name) = some m
 | [], _, _, hm => by cases hm
 | a :: l, hn, m, hm => by
   rw [List.map_cons, List.nodup_cons] at hn
   rcases List.mem_cons.1 hm with e | hm
   · subst e
     simp
   · have hne : (a.name == m.name) = false := by
      rw [beq_eq_false_iff_ne]; intro e; exact hn.1 (e ▸ List.mem_map_of_mem hm)
     rw [List.find?_cons, hne]; exact find_self hn.2 hm
theorem call_own {cs : List XCls} (hz : layE cs = 0) {k : Nat} {c : XCls} (h : (allL cs)[k]? = some c) (hi : c.iface = true) {m : XMth} (hm : m ∈ c.methods) : callQ cs c.name m.name = some m := by
 obtain ⟨up, hg⟩ := lay_grow hz; unfold callQ; rw [if_pos hz, place_at (lay_err hz) h, hg]; simp only; rw [sig_some (meth_own hz hg (at_lt h) (m := m) (by rw [clP_at h]; exact find_self (mem_facts hz h).2.2 hm))]
 simp only; rw [(mth_facts hz h hm).2 hi]
 rfl
theorem mt_class {cs : List XCls} {up : List (List Nat)} (hz : layE cs = 0) (hg : growL (allL cs) (allL cs) = some up) : ∀ n k, k < (allL cs).length -> (clP (allL cs) k).iface = false -> ∀ o ∈ (pnet (allL cs) up).mtF n k, o.2.abst = false
 | 0, _, _, _, o, ho => by cases ho
 | n + 1, k, hk, hi, o, ho => by
   unfold Net.mtF at ho
   have h0 : ∀ o ∈ Net.ownM ((pnet (allL cs) up).cl k), o.2.abst = false := by
    intro o ho; obtain ⟨m, hm, rfl⟩ := List.mem_map.1 ho; exact (mth_facts hz (at_of hk) hm).1.trans hi
   cases hs : (pnet (allL cs) up).sup k with
   | none => rw [hs] at ho; exact h0 o ho
   | some s =>
     rw [hs] at ho
     rcases List.mem_append.1 ho with ho | ho
     · exact h0 o ho
     · have hs' : supP (allL cs) k = some s := hs
       obtain ⟨h1, h2, h3, _⟩ := sup_step (lay_err hz) hg hk hs'; obtain ⟨q, d, hq, _, hdi, _, hor⟩ := super_place hz hg (at_of hk) h1
       have e : q = s := by
        rcases hor with e | ⟨e, _⟩
        · rw [hs'] at e; injection e with e; exact e.symm
        · rw [hs'] at e; cases e
       subst e; exact mt_class hz hg n q h3 (by rw [clP_at hq]; exact hdi) o ho
theorem meth_kindsP {cs : List XCls} {up : List (List Nat)} (he : errL cs = 0) (hg : growL (allL cs) (allL cs) = some up) {k : Nat} (hk : k < (allL cs).length) {nm : Bs} {o : Bs × XMth} (ho : methP (pnet (allL cs) up) k nm = some o) : ∀ q ∈ o.2.params, q.kind ≠ 0 := by
 have hG := pnet_good he hg; have hm : o ∈ (pnet (allL cs) up).mt k := List.mem_of_find?_eq_some ho; obtain ⟨j, hj, hqm⟩ := mtF_of hG _ k hk o hm; have hqm : o.2 ∈ (clP (allL cs) j).methods := hqm; have hp := (err_zero he).1
 rcases List.mem_append.1 (List.mem_of_getElem? (at_of hj)) with hc | hc
 · have h0 : ∀ c ∈ base, c.methods = [] := by decide
   have h1 : (clP (allL cs) j).methods = [] := h0 _ hc; have h2 : o.2 ∈ (clP (allL cs) j).methods := hqm; rw [h1] at h2; cases h2
 · have h1 := (cls_parts (prog_all hp hc)).2.2.2.2.2.2 o.2 hqm
   simp only [mthB, Bool.and_eq_true, eachB_iff] at h1; exact fun q hq => type_kind (h1.2.1.2 q hq)
theorem class_face {cs : List XCls} (hz : layE cs = 0) {i : Nat} {f : XCls} (hf : (allL cs)[i]? = some f) (hfi : f.iface = true) {m : XMth} (hm : m ∈ f.methods) {kn : Bs} (hk : kn ∈ kindsQ cs f.name) : ∃ o, methQ cs kn m.name = some o /\ callQ cs kn m.name = some o.2 /\ o.1 ≠ [] /\ o.2.stat = false /\ o.2.abst = false /\ o.2.params = m.params /\ o.2.ret = m.ret /\ ∀ q ∈ o.2.params, q.kind ≠ 0 := by
 unfold kindsQ kindsL at hk; obtain ⟨c, hc, rfl⟩ := List.mem_map.1 hk; rw [List.mem_filter, Bool.and_eq_true, Bool.not_eq_true', underB_iff] at hc; obtain ⟨hc, hci, hu⟩ := hc; obtain ⟨j, hj⟩ := List.mem_iff_getElem?.1 hc; have hc8 := own_at hj; obtain ⟨up, i1, i2, he, hg, h1, h2, h3⟩ := hu; rw [place_at he hc8] at h1; rw [place_at he hf] at h2; cases h1; cases h2
 have hfar : Far up (8 + j) i := by
  rcases h3 with e | e | h3
  · subst e
    rw [hc8] at hf; cases hf; rw [hci] at hfi; cases hfi
  · subst e
    have h0 : (allL cs)[0]? = some f := hf; have hb : (allL cs)[0]? = some ((allL cs)[0]'(all_pos cs)) := List.getElem?_eq_getElem _
    exact absurd hfi (by
     have : f = (allL cs)[0]'(all_pos cs) := by rw [hb] at h0; injection h0 with h0; exact h0.symm
     rw [this]; show ¬ ((base ++ cs)[0]'_).iface = true
     simp [base, plain])
  · exact h3
 have hG := pnet_good he hg; have hab := (ab_far he hg _ (8 + j) (at_lt hc8) (Nat.lt_succ_self _) i).2 ⟨by rw [clP_at hf]; exact hfi, .inr hfar⟩
 obtain ⟨o, ho, hs, ha⟩ := meth_face hz hg (at_lt hc8) (at_lt hf) (by rw [clP_at hc8]; exact hci) hab (m := m) (by rw [clP_at hf]; exact hm)
 rw [alikeB_iff] at ha; refine ⟨o, by rw [methQ_at hz hg hc8 hci]; exact ho, ?_, (methP_name he hg (at_lt hc8) ho).1, hs, mt_class hz hg _ _ (at_lt hc8) (by rw [clP_at hc8]; exact hci) o (List.mem_of_find?_eq_some ho), ha.1, ha.2, meth_kindsP he hg (at_lt hc8) ho⟩
 unfold callQ; rw [if_pos hz, place_at he hc8, hg]; simp only; rw [sig_some ho]; simp only; rw [hs]
 rfl
end Ly
theorem mth_parts {w : World} {m : Pp.XMth} {n1 s6 : ByteArray} {b2 b3 : Bool} {k5 l7 : Int} {va vb vc : Value} (h : MthX w m [.string n1, .bool b2, .bool b3, va, .int .i64 k5, .string s6, .int .i64 l7, vb, vc]) : b2 = m.stat /\ b3 = m.abst /\ RowX w 2 TyX va m.params /\ k5 = m.ret.kind /\ s6 = ⟨m.ret.name.toArray⟩ := by
 obtain ⟨vp, vi, vk, e, x1, _⟩ := h; simp only [mthXL, List.cons.injEq, Value.string.injEq, Value.bool.injEq, Value.int.injEq] at e; obtain ⟨_, e2, e3, e4, ⟨_, e5⟩, e6, _⟩ := e; exact ⟨e2, e3, e4 ▸ x1, e5, e6⟩
theorem Kinds_any (cs : List Pp.XCls) (v : Value) (nm : Pp.Bs) (w : World) (ht : TabS w) (h : ProgX w v cs) :
 Calls Tryz.prog 30 #[.agg #[v], .string ⟨nm.toArray⟩] w fun e w' => ∃ v', e = .returned v' /\ Ow.OwnX w' w.heap.size 9 1 StrX v' (Hr.kindsQ cs nm) /\ Below w.heap.size w w' := by
 have HG := hide (fun wx (hb : Below w.heap.size w wx) => look_any cs v nm w wx (ht.below hb) hb h); have HPr := hide h; obtain ⟨pa, pc, rfl, _⟩ := h.1.len; obtain ⟨n, hn'⟩ : ∃ n, n = cs.length := ⟨_, rfl⟩; have HN := hide hn'; rw [<- hn'] at HG HPr ⊢; clear h ht hn'; have hx0 := hide (heap_alloc_new w (.cells #[.slice pa n pc] 24)); have HB0 := hide ((Below.refl w.heap.size w).alloc (Nat.le_refl _) (.cells #[.slice pa n pc] 24)); cases hl : Hr.lookL cs nm with
 | none =>
   have HQ := hide (Hr.kinds_none hl); rw [hl] at HG; simp only [Hr.pairP] at HG; clear hl; generalize (⟨nm.toArray⟩ : ByteArray) = nb at *
   go_enter Tryz.func30, Tryz.ntmps30; go_wp2_with fail; refine (HG.out _ HB0.out).mono ?_; rintro e w1 ⟨⟨a1, n1, c1, a2, n2, c2, rfl, _⟩, hb1⟩; have HB1 := hide (HB0.out.trans (hb1.mono HB0.out.size)); clear hb1 HG HB0; go_wp2_with fail; go_ret; rw [HQ.out]; exact ⟨_, rfl, Ow.OwnX.nil _ _ _ _ _, HB1.out.alloc HB1.out.size _⟩
 | some q =>
   obtain ⟨he, hp⟩ := Hr.lookL_some hl; obtain ⟨cq, hcq, -⟩ := Hr.placeL_lt hp; have HE := hide he; have HPA := hide hp; have HCq := hide hcq; rw [hl] at HG; simp only [Hr.pairP] at HG; clear hl he hp hcq; generalize (⟨nm.toArray⟩ : ByteArray) = nb at *
   go_enter Tryz.func30, Tryz.ntmps30; go_wp2_with fail; generalize w.alloc (.cells #[.slice pa n pc] 24) = w0 at *
   refine (HG.out _ HB0.out).mono ?_; rintro e w1 ⟨⟨a1, n1, c1, a2, n2, c2, rfl, htr⟩, hb1⟩; obtain ⟨up, htr⟩ := htr HE.out; have HB1 := hide (HB0.out.trans (hb1.mono HB0.out.size)); have HTx := hide (htr.x HB1.out)
   have hm : n1 = (Hr.allL cs).length := by
    obtain ⟨_, _, hsh⟩ := htr.all.shape; injection hsh
   have HNL := hide hm; have hqm : q < n1 := by rw [hm]; exact (List.getElem?_eq_some_iff.1 HCq.out).1
   have h8 : n1 = 8 + n := by rw [hm, HN.out, Hr.all_len]; rfl
   have h1000 : n1 <= 1000 := by rw [hm]; exact htr.top
   clear hm; have HAl := hide ((Below.refl w1.heap.size w1).alloc (Nat.le_refl _) (.cells #[.slice a1 n1 c1, .slice a2 n2 c2] 117)); have HXt := hide (heap_alloc_new w1 (.cells #[.slice a1 n1 c1, .slice a2 n2 c2] 117)); have HXp := hide ((HAl.out.block w.heap.size (by have := Ow.lt_of_blk hx0.out; have := hb1.size; omega)).trans ((hb1.block _ (Ow.lt_of_blk hx0.out)).trans hx0.out))
   have HRa := hide (fun wx (hb : Below w1.heap.size w1 wx) => HTx.out.all.on hb fun _ _ h => h.on hb); have HUn := hide (fun wx (hb : Below w1.heap.size w1 wx) (lo : Nat) (h2 : lo < n1) => under_any n1 a1 c1 up (.slice a2 n2 c2) lo q wx ((by have := HTx.out.ups.on hb; rw [<- HNL.out] at this; exact this)) h2 hqm)
   have HGr := hide HTx.out.grw; clear htr hb1 HG HB0 HTx hx0; have HB2 := hide (HB1.out.trans (HAl.out.mono HB1.out.size)); have cp := cell_box HXp.out 0; have hi8 : (n1 : Int) <= 8 + (n : Int) := by omega
   have hi7 : 8 + (n : Int) <= (n1 : Int) := by omega
   clear h8; have hi9 : (n1 : Int) <= 1000 := by omega
   go_wp2_with fail; clear cp; generalize w1.alloc (.cells #[.slice a1 n1 c1, .slice a2 n2 c2] 117) = w2 at *
   have HCt : Hid (∀ wx, Below w2.heap.size w2 wx -> wx.heap[w1.heap.size]? = some (.cells #[.slice a1 n1 c1, .slice a2 n2 c2] 117 (0, 0))) := hide fun wx hb => (hb.block _ (Ow.lt_of_blk HXt.out)).trans HXt.out; obtain ⟨j0, hj, hj0, hj1, hj2⟩ := Ow.info_of Ow.i_str; clear HXt HXp
   go_loopw [8, 9] (fun lv i wr => ∃ (k j : Nat) (acc : List Pp.Bs), k <= n /\ j = 8 + k /\ i = .int .i64 j /\ Hid (Below w2.heap.size w2 wr) /\ Hid (Ow.OwnX wr w2.heap.size 9 1 StrX lv acc) /\ Hid (acc = Hr.kindsL cs nm (cs.take k))) (fun lv i _ => n1 - (intOf i).toNat)
   case atStart => exact ⟨0, 8, [], Nat.zero_le _, rfl, by first | rfl | (congr 1; omega), hide (Below.refl _ _), hide (Ow.OwnX.nil _ _ _ _ _), hide (by simp [Hr.kindsL])⟩
   case round =>
    obtain ⟨k, j, acc, hk, hjk, rfl, HBr, HO, HAc⟩ := hrel; have HJK := hide hjk; obtain ⟨la, lc, rfl⟩ := HO.out.shape; have HW1 := hide (HAl.out.trans (HBr.out.mono HAl.out.size)); have hjb : j <= n1 := by omega
    have q0 := cell_box (HCt.out wr HBr.out) 0; by_cases hlt : j < n1
    · obtain ⟨x, hx⟩ : ∃ x, cs[k]? = some x := ⟨cs[k]'(by rw [<- HN.out]; omega), List.getElem?_eq_getElem _⟩
      have hxa : (Hr.allL cs)[j]? = some x := by rw [hjk, Hr.all_at]; exact hx
      obtain ⟨g1, o1, eg1, ys1, w1', hc1⟩ := Hr.row_at (HRa.out wr HW1.out) hxa; subst eg1; have HCx := hide (hc1 wr (Below.refl _ _)); have HUx := hide (Hr.under_at HE.out HGr.out hxa HPA.out); have HY := hide (fun h => Hr.kinds_yes (cs := cs) (nm := nm) hx h); have HNo := hide (fun h => Hr.kinds_no (cs := cs) (nm := nm) hx h); have HLx : Hid (x.name.length <= maxLen) := hide (by obtain ⟨_, _, _, _, _, _, _, hz, _⟩ := w1'; exact hz)
      have HLn : Hid (acc.length <= 1000) := hide (by rw [HAc.out]; have := Hr.kinds_len cs (cs.take k) nm; rw [List.length_take] at this; omega)
      have hxl : x.name.length <= maxLen := HLx.out; obtain ⟨va1, vd1, va2, vd2, va3, vd3, rfl⟩ := Hr.at_c w1'; have r0 := HCx.out 0 _ rfl; have r1 := HCx.out 1 _ rfl; have r2 := HCx.out 2 _ rfl; have r3 := HCx.out 3 _ rfl; have r4 := HCx.out 4 _ rfl; have r5 := HCx.out 5 _ rfl; rw [Nat.add_zero] at r0; have hlt' : (j : Int) < (n1 : Int) := by omega
      have q1 := cell_box (HCt.out wr HBr.out) 1; have htl := Ow.lt_of_blk (HCt.out wr HBr.out); have htn : w1.heap.size ≠ wr.heap.size := by omega
      have HBA := hide ((Below.refl wr.heap.size wr).alloc (Nat.le_refl _) (.cells #[.string ⟨x.name.toArray⟩, .bool x.iface, .string ⟨x.super.toArray⟩, .slice va1 x.ifaces.length vd1, .slice va2 x.fields.length vd2, .slice va3 x.methods.length vd3] 59)); have HXb := hide (heap_alloc_new wr (.cells #[.string ⟨x.name.toArray⟩, .bool x.iface, .string ⟨x.super.toArray⟩, .slice va1 x.ifaces.length vd1, .slice va2 x.fields.length vd2, .slice va3 x.methods.length vd3] 59)); clear hc1 HCx hx hxa w1' hjk; cases hif : x.iface with
      | true =>
        have HAc' : Hid (acc = Hr.kindsL cs nm (cs.take (k + 1))) := hide (by rw [HNo.out (by rw [hif]; simp)]; exact HAc.out)
        rw [hif] at r1 HBA HXb; clear HAc HY HNo HUx hif; go_wp2_with fail
        go_roundw
        case rel => first | exact ⟨k + 1, j + 1, acc, by have := HJK.out; omega, by have := HJK.out; omega, by go_num, hide (HBr.out.trans (HBA.out.mono HBr.out.size)), hide (HO.out.on HBA.out fun _ _ h => h), HAc'⟩ | ((repeat apply Exists.intro); exact ⟨⟨k + 1, j + 1, acc, by have := HJK.out; omega, by have := HJK.out; omega, by go_num, hide (HBr.out.trans (HBA.out.mono HBr.out.size)), hide (HO.out.on HBA.out fun _ _ h => h), HAc'⟩, rfl⟩)
        case measure => simp [intOf]; omega
      | false =>
        rw [hif] at r1 HBA HXb; have HIF := hide hif; clear hif; go_wp2_with fail; refine (HUn.out _ (HW1.out.trans (HBA.out.mono HW1.out.size)) j hlt).mono ?_; rintro e w5 ⟨hy, hb5⟩; have HB5 := hide (HBA.out.trans (hb5.mono HBA.out.size)); have HO5 := hide (HO.out.on HB5.out fun _ _ h => h); have HW5 := hide (HBr.out.trans (HB5.out.mono HBr.out.size)); have HX5 := hide ((hb5.block wr.heap.size (Ow.lt_of_blk HXb.out)).trans HXb.out); have b0 := cell_box HX5.out 0; clear hb5 r0 r1 r2 r3 r4 r5 q0 q1; by_cases hun : j = q \/ q = 0 \/ Hr.Far up j q
        · have HAc' : Hid (acc ++ [x.name] = Hr.kindsL cs nm (cs.take (k + 1))) := hide (by rw [HY.out ⟨HIF.out, HUx.out.2 hun⟩, HAc.out])
          have hy := hy.t hun; subst hy; clear HAc HY HNo HUx hun HUn; have hstr : StrX x.name [.string ⟨x.name.toArray⟩] := ⟨rfl, HLx.out⟩; have HSt := hide hstr; clear hstr
          go_wp2_with (at_builtin; refine Ow.wpList_app rfl (.tmp 48) (.tmp 51) 55 rfl Tryz.underlying55 hj hj0 hj1 hj2 (by decide) Ow.shp_str rfl (HO5.out.on ((Below.refl _ _).alloc (Nat.le_refl _) (.cells #[.string ⟨x.name.toArray⟩] 9)) fun _ _ h => h) rfl (Hr.row_one (sz := 1) (heap_alloc_new w5 (.cells #[.string ⟨x.name.toArray⟩] 9)) HSt.out) ?c1 (by decide) ?c2 ?_)
          case c1 => have := HLn.out; simp; omega
          case c2 => have := HW5.out.size; simp; omega
          · intro v' w10 hown hgrow
            have hb10 := Ow.bel_grown (HO5.out.on ((Below.refl _ _).alloc (Nat.le_refl _) (.cells #[.string ⟨x.name.toArray⟩] 9)) fun _ _ h => h) (by have := HW5.out.size; simp; omega) hgrow
            have HB10 := hide ((HW5.out.alloc HW5.out.size _).trans hb10); have HO10 := hide hown; clear hown hgrow hb10 HO5 b0 HX5; go_wp2_with fail
            go_roundw
            case rel => first | exact ⟨k + 1, j + 1, acc ++ [x.name], by have := HJK.out; omega, by have := HJK.out; omega, by go_num, HB10, HO10, HAc'⟩ | ((repeat apply Exists.intro); exact ⟨⟨k + 1, j + 1, acc ++ [x.name], by have := HJK.out; omega, by have := HJK.out; omega, by go_num, HB10, HO10, HAc'⟩, rfl⟩)
            case measure => simp [intOf]; omega
        · have HAc' : Hid (acc = Hr.kindsL cs nm (cs.take (k + 1))) := hide (by rw [HNo.out (fun h => hun (HUx.out.1 h.2))]; exact HAc.out)
          have hy := hy.f hun; subst hy; clear HAc HY HNo HUx hun HUn; go_wp2_with fail
          go_roundw
          case rel => first | exact ⟨k + 1, j + 1, acc, by have := HJK.out; omega, by have := HJK.out; omega, by go_num, HW5, HO5, HAc'⟩ | ((repeat apply Exists.intro); exact ⟨⟨k + 1, j + 1, acc, by have := HJK.out; omega, by have := HJK.out; omega, by go_num, HW5, HO5, HAc'⟩, rfl⟩)
          case measure => simp [intOf]; omega
    · have HAe : Hid (acc = Hr.kindsQ cs nm) := hide (by rw [HAc.out, List.take_of_length_le (by rw [<- HN.out]; omega)]; rfl)
      have hnl : ¬ ((j : Int) < (n1 : Int)) := by omega
      go_wp2_with fail; go_ret; rw [<- HAe.out]; exact ⟨_, rfl, HO.out.low HB2.out.size fun _ _ h => h, HB2.out.trans (HBr.out.mono HB2.out.size)⟩
end Go.Proofs.YtjlappamkfjlkaaGreatDoor

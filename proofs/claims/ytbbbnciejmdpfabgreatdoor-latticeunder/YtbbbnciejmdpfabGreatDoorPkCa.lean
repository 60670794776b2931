/- What the laws of this seat lean on: 3 texts. -/
import Derived.Test.YtbbbnciejmdpfabGreatDoorPkAb
import Derived.ProofKit
import Derived.OpenShut
import Derived.Deep.Slices
import Derived.Test.YtbbbnciejmdpfabGreatDoorPkAl
import Derived.Test.YtbbbnciejmdpfabGreatDoorCards
import Derived.Test.YtbbbnciejmdpfabGreatDoorTie
import Derived.Deep.DeepHandedRow
import Derived.Lib.LaidTab
import Derived.LaidSub
import Derived.ChangeOld
import Derived.ShutString
set_option maxRecDepth 100000
set_option maxHeartbeats 64000000
set_option linter.unusedVariables false
set_option linter.unusedSimpArgs false
namespace Go.Proofs.YtbbbnciejmdpfabGreatDoor
open Go.ChangeShapes Go.WideShapes Go.ChangeAt Go.RowKit
namespace Ox
section
variable {H : Type} {enc : TypeId × Value -> H} {w : World} {base : Nat} {spare : Nat -> Bool} {held : Bool}
theorem choose_any {α : Type} {n : Nat} {p : Nat -> α -> Prop} (h0 : 0 < n) (h : ∀ i, i < n -> ∃ x, p i x) : ∃ f : Nat -> α, ∀ i, i < n -> p i (f i) := by
 refine ⟨fun i => if hi : i < n then Classical.choose (h i hi) else Classical.choose (h 0 h0), fun i hi => ?_⟩
 simp only [dif_pos hi]; exact Classical.choose_spec (h i hi)
theorem toL (s : ByteArray) : s.data.toList.length = s.size := by rw [Array.length_toList]; rfl
theorem open_row {α : Type} {P : α -> List Value -> Prop} {t e : TypeId} {sz fuel : Nat} {v : Value} {x : DataW H × List MemPlace} (ht : Tryz.prog.underlying t = some (.slice e)) (hc : Tryz.prog.cellsOf e = sz) (hsz : 0 < sz)
 (hel : ∀ (n : Nat) (cs : List Value) (x : DataW H × List MemPlace), DataW.trod enc Tryz.prog w base spare held n e cs = some x -> ∃ a, P a cs /\ cs.length = sz)
 (h : DataW.trod enc Tryz.prog w base spare held fuel t [v] = some x) : ∃ l : List α, RowX w sz P v l /\ l.length <= maxLen := by
 rcases Deep.open_slice ht h with ⟨hcs, _⟩ | ⟨x, l, c, m, n, D, Pl, hcs, hb, hl, hm, hmm, _, hx⟩
 · simp at hcs
   subst hcs; exact ⟨[], ⟨none, 0, rfl, Nat.le_refl _, .inl rfl⟩, Nat.zero_le _⟩
 · simp at hcs
   subst hcs
   rcases Nat.eq_zero_or_pos l with h0 | h0
   · subst h0
     exact ⟨[], ⟨some x, c, rfl, Nat.zero_le _, .inl rfl⟩, Nat.zero_le _⟩
   have hlm : l <= m := by rw [hmm]; split <;> omega
   have each : ∀ i, i < l -> ∃ (a : α × List Value), P a.1 a.2 /\ a.2.length = sz /\ ∀ (j : Nat) (u : Value), a.2[j]? = some u -> w.cell? (x.add (i * sz + j)) = some u := by
    intro i hi; obtain ⟨cs', h1, h2⟩ := hx i (by omega)
    rw [hc] at h1; obtain ⟨a, ha, hal⟩ := hel _ _ _ h2; obtain ⟨_, _, hcell⟩ := World.cells?_some h1; refine ⟨(a, cs'), ha, hal, fun j u hj => ?_⟩
    have hjl : j < sz := by
     rw [<- hal]
     rcases Nat.lt_or_ge j cs'.length with h | h
     · exact h
     · simp only at hj; rw [List.getElem?_eq_none h] at hj; cases hj
    have e1 := hcell j hjl; rw [Deep.add_add] at e1; rw [e1]; exact hj
   obtain ⟨T, hT⟩ := choose_any h0 each
   have hget : ∀ j a, ((List.range l).map fun i => (T i).1)[j]? = some a -> j < l /\ a = (T j).1 := by
    intro j a hj
    have hjl : j < l := by
     rcases Nat.lt_or_ge j l with h | h
     · exact h
     · rw [List.getElem?_eq_none (by simpa using h)] at hj; cases hj
    rw [List.getElem?_map, List.getElem?_range hjl] at hj; simp at hj; exact ⟨hjl, hj.symm⟩
   have hne : ∃ u, (T 0).2[0]? = some u := by
    have := (hT 0 h0).2.1; exact ⟨(T 0).2[0]'(by omega), List.getElem?_eq_getElem _⟩
   obtain ⟨u, hu⟩ := hne; have h00 := (hT 0 h0).2.2 0 u hu; obtain ⟨b, off, spot⟩ := x; have hspot : spot = none := by simpa [Addr.add] using World.cell?_spot h00
   subst hspot; refine ⟨(List.range l).map fun i => (T i).1, ⟨some ⟨b, off, none⟩, c, by simp, by simpa using hl, .inr ⟨b, off, rfl, by simpa [Addr.add] using World.block_lt_of_cell? w _ h00, fun j a hj => ?_⟩⟩, by simp; omega⟩
   obtain ⟨hjl, rfl⟩ := hget j a hj; refine ⟨(T j).2, (hT j hjl).1, fun i u hi => ?_⟩; have := (hT j hjl).2.2 i u hi; rw [Go.WideShapes.add_plain, <- Nat.add_assoc] at this; exact this
theorem open_str {n : Nat} {cs : List Value} {x : DataW H × List MemPlace} (h : DataW.trod enc Tryz.prog w base spare held n 9 cs = some x) : ∃ s : Pp.Bs, StrX s cs /\ cs.length = 1 := by
 obtain ⟨s, rfl, _, hs⟩ := DataW.trod_string Tryz.underlying9 h; exact ⟨s.data.toList, ⟨rfl, by rw [toL]; exact hs⟩, rfl⟩
theorem c_int : Tryz.prog.cellsOf 3 = 1 := by kernel_rfl
theorem c_str : Tryz.prog.cellsOf 9 = 1 := by kernel_rfl
theorem c_bool : Tryz.prog.cellsOf 4 = 1 := by kernel_rfl
theorem c_ty : Tryz.prog.cellsOf 36 = 2 := by kernel_rfl
theorem c_fld : Tryz.prog.cellsOf 43 = 4 := by kernel_rfl
theorem c_ins : Tryz.prog.cellsOf 50 = 4 := by kernel_rfl
theorem c_ctc : Tryz.prog.cellsOf 52 = 4 := by kernel_rfl
theorem c_mth : Tryz.prog.cellsOf 48 = 9 := by kernel_rfl
theorem c_cls : Tryz.prog.cellsOf 33 = 6 := by kernel_rfl
theorem c_prog : Tryz.prog.cellsOf 24 = 1 := by kernel_rfl
theorem c_strs : Tryz.prog.cellsOf 29 = 1 := by kernel_rfl
theorem c_tys : Tryz.prog.cellsOf 44 = 1 := by kernel_rfl
theorem c_flds : Tryz.prog.cellsOf 30 = 1 := by kernel_rfl
theorem c_inss : Tryz.prog.cellsOf 45 = 1 := by kernel_rfl
theorem c_ctcs : Tryz.prog.cellsOf 46 = 1 := by kernel_rfl
theorem c_mths : Tryz.prog.cellsOf 31 = 1 := by kernel_rfl
theorem c_clss : Tryz.prog.cellsOf 22 = 1 := by kernel_rfl
theorem open_ty {n : Nat} {cs : List Value} {x : DataW H × List MemPlace} (h : DataW.trod enc Tryz.prog w base spare held n 36 cs = some x) : ∃ t : Pp.Ty, TyX t cs /\ cs.length = 2 := by
 obtain ⟨xs, k, _, _, hlen, hxl, hf⟩ := DataW.trod_struct Tryz.underlying36 h; rw [c_ty] at hlen
 match xs, hxl, cs, hlen with
 | [y0, y1], _, [v0, v1], _ =>
   have g0 := hf 0 _ rfl; have g1 := hf 1 _ rfl; simp [c_int, c_str] at g0 g1; obtain ⟨n0, e0, _, _⟩ := DataW.trod_int Tryz.underlying3 g0; obtain ⟨s1, e1, _, hs⟩ := DataW.trod_string Tryz.underlying9 g1; simp at e0 e1; subst e0 e1; exact ⟨⟨n0, s1.data.toList⟩, ⟨rfl, by rw [toL]; exact hs⟩, rfl⟩
theorem open_fld {n : Nat} {cs : List Value} {x : DataW H × List MemPlace} (h : DataW.trod enc Tryz.prog w base spare held n 43 cs = some x) : ∃ t : Pp.Fld, FldX t cs /\ cs.length = 4 := by
 obtain ⟨xs, k, _, _, hlen, hxl, hf⟩ := DataW.trod_struct Tryz.underlying43 h; rw [c_fld] at hlen
 match xs, hxl, cs, hlen with
 | [y0, y1, y2], _, [v0, v1, v2, v3], _ =>
   have g0 := hf 0 _ rfl; have g1 := hf 1 _ rfl; have g2 := hf 2 _ rfl; simp [c_str, c_ty, c_bool] at g0 g1 g2; obtain ⟨s0, e0, _, hs0⟩ := DataW.trod_string Tryz.underlying9 g0; obtain ⟨ty, e1, _⟩ := open_ty g1; obtain ⟨b, e2, _⟩ := DataW.trod_bool Tryz.underlying4 g2; obtain ⟨e1, hty⟩ := e1; simp [tyL] at e0 e1 e2; obtain ⟨e11, e12⟩ := e1; subst e0 e11 e12 e2; exact ⟨⟨s0.data.toList, ty, b⟩, ⟨rfl, by rw [toL]; exact hs0, hty⟩, rfl⟩
theorem open_ins {n : Nat} {cs : List Value} {x : DataW H × List MemPlace} (h : DataW.trod enc Tryz.prog w base spare held n 50 cs = some x) : ∃ t : Pp.XIns, InsX t cs /\ cs.length = 4 := by
 obtain ⟨xs, k, _, _, hlen, hxl, hf⟩ := DataW.trod_struct Tryz.underlying50 h; rw [c_ins] at hlen
 match xs, hxl, cs, hlen with
 | [y0, y1, y2, y3], _, [v0, v1, v2, v3], _ =>
   have g0 := hf 0 _ rfl; have g1 := hf 1 _ rfl; have g2 := hf 2 _ rfl; have g3 := hf 3 _ rfl; simp [c_int, c_str] at g0 g1 g2 g3; obtain ⟨n0, e0, _, _⟩ := DataW.trod_int Tryz.underlying3 g0; obtain ⟨n1, e1, _, _⟩ := DataW.trod_int Tryz.underlying3 g1; obtain ⟨s2, e2, _, hs2⟩ := DataW.trod_string Tryz.underlying9 g2; obtain ⟨s3, e3, _, hs3⟩ := DataW.trod_string Tryz.underlying9 g3; simp at e0 e1 e2 e3; subst e0 e1 e2 e3; exact ⟨⟨n0, n1, s2.data.toList, s3.data.toList⟩, ⟨rfl, by rw [toL]; exact hs2, by rw [toL]; exact hs3⟩, rfl⟩
theorem open_ctc {n : Nat} {cs : List Value} {x : DataW H × List MemPlace} (h : DataW.trod enc Tryz.prog w base spare held n 52 cs = some x) : ∃ t : Pp.Ctc, CtcX t cs /\ cs.length = 4 := by
 obtain ⟨xs, k, _, _, hlen, hxl, hf⟩ := DataW.trod_struct Tryz.underlying52 h; rw [c_ctc] at hlen
 match xs, hxl, cs, hlen with
 | [y0, y1, y2, y3], _, [v0, v1, v2, v3], _ =>
   have g0 := hf 0 _ rfl; have g1 := hf 1 _ rfl; have g2 := hf 2 _ rfl; have g3 := hf 3 _ rfl; simp [c_int, c_str] at g0 g1 g2 g3; obtain ⟨s0, e0, _, hs0⟩ := DataW.trod_string Tryz.underlying9 g0; obtain ⟨n1, e1, _, _⟩ := DataW.trod_int Tryz.underlying3 g1; obtain ⟨n2, e2, _, _⟩ := DataW.trod_int Tryz.underlying3 g2; obtain ⟨n3, e3, _, _⟩ := DataW.trod_int Tryz.underlying3 g3; simp at e0 e1 e2 e3; subst e0 e1 e2 e3; exact ⟨⟨s0.data.toList, n1, n2, n3⟩, ⟨rfl, by rw [toL]; exact hs0⟩, rfl⟩
theorem open_mth {n : Nat} {cs : List Value} {x : DataW H × List MemPlace} (h : DataW.trod enc Tryz.prog w base spare held n 48 cs = some x) : ∃ t : Pp.XMth, MthX w t cs /\ cs.length = 9 := by
 obtain ⟨xs, k, _, _, hlen, hxl, hf⟩ := DataW.trod_struct Tryz.underlying48 h; rw [c_mth] at hlen
 match xs, hxl, cs, hlen with
 | [y0, y1, y2, y3, y4, y5, y6, y7], _, [v0, v1, v2, v3, v4, v5, v6, v7, v8], _ =>
   have g0 := hf 0 _ rfl; have g1 := hf 1 _ rfl; have g2 := hf 2 _ rfl; have g3 := hf 3 _ rfl; have g4 := hf 4 _ rfl; have g5 := hf 5 _ rfl; have g6 := hf 6 _ rfl; have g7 := hf 7 _ rfl; simp [c_str, c_bool, c_tys, c_ty, c_int, c_inss, c_ctcs] at g0 g1 g2 g3 g4 g5 g6 g7; obtain ⟨s0, e0, _, hs0⟩ := DataW.trod_string Tryz.underlying9 g0; obtain ⟨b1, e1, _⟩ := DataW.trod_bool Tryz.underlying4 g1; obtain ⟨b2, e2, _⟩ := DataW.trod_bool Tryz.underlying4 g2; obtain ⟨ps, hps, lps⟩ := open_row (P := TyX) Tryz.underlying44 c_ty (by omega) (fun n cs x h => open_ty h) g3
   obtain ⟨ty, e4, _⟩ := open_ty g4; obtain ⟨n5, e5, _, _⟩ := DataW.trod_int Tryz.underlying3 g5; obtain ⟨co, hco, lco⟩ := open_row (P := InsX) Tryz.underlying45 c_ins (by omega) (fun n cs x h => open_ins h) g6
   obtain ⟨ca, hca, lca⟩ := open_row (P := CtcX) Tryz.underlying46 c_ctc (by omega) (fun n cs x h => open_ctc h) g7
   obtain ⟨e4, hty⟩ := e4; simp [tyL] at e0 e1 e2 e4 e5; obtain ⟨e41, e42⟩ := e4; subst e0 e1 e2 e41 e42 e5; exact ⟨⟨s0.data.toList, b1, b2, ps, ty, n5, co, ca⟩, ⟨_, _, _, rfl, hps, hco, hca, by rw [toL]; exact hs0, hty, lps, lco, lca⟩, rfl⟩
theorem open_cls {n : Nat} {cs : List Value} {x : DataW H × List MemPlace} (h : DataW.trod enc Tryz.prog w base spare held n 33 cs = some x) : ∃ t : Pp.XCls, ClsX w t cs /\ cs.length = 6 := by
 obtain ⟨xs, k, _, _, hlen, hxl, hf⟩ := DataW.trod_struct Tryz.underlying33 h; rw [c_cls] at hlen
 match xs, hxl, cs, hlen with
 | [y0, y1, y2, y3, y4, y5], _, [v0, v1, v2, v3, v4, v5], _ =>
   have g0 := hf 0 _ rfl; have g1 := hf 1 _ rfl; have g2 := hf 2 _ rfl; have g3 := hf 3 _ rfl; have g4 := hf 4 _ rfl; have g5 := hf 5 _ rfl; simp [c_str, c_bool, c_strs, c_flds, c_mths] at g0 g1 g2 g3 g4 g5; obtain ⟨s0, e0, _, hs0⟩ := DataW.trod_string Tryz.underlying9 g0; obtain ⟨b1, e1, _⟩ := DataW.trod_bool Tryz.underlying4 g1; obtain ⟨s2, e2, _, hs2⟩ := DataW.trod_string Tryz.underlying9 g2; obtain ⟨ifs, hif, lif⟩ := open_row (P := StrX) Tryz.underlying29 c_str (by omega) (fun n cs x h => open_str h) g3
   obtain ⟨fs, hfs, lfs⟩ := open_row (P := FldX) Tryz.underlying30 c_fld (by omega) (fun n cs x h => open_fld h) g4
   obtain ⟨ms, hms, lms⟩ := open_row (P := MthX w) Tryz.underlying31 c_mth (by omega) (fun n cs x h => open_mth h) g5
   simp at e0 e1 e2; subst e0 e1 e2; exact ⟨⟨s0.data.toList, b1, s2.data.toList, ifs, fs, ms⟩, ⟨_, _, _, rfl, hif, hfs, hms, by rw [toL]; exact hs0, by rw [toL]; exact hs2, lif, lfs, lms⟩, rfl⟩
theorem open_prog {r : Reach} {b0 : Nat} {v : Value} {d : DataW H} {p : List MemPlace} (hv : Value.okWide Tryz.prog w r b0 24 v) (h : DataW.Trod enc Tryz.prog w base spare held 24 v d p) : ∃ (u : Value) (cs : List Pp.XCls), v = .agg #[u] /\ ProgX w u cs := by
 obtain ⟨cs, rfl, hsz⟩ := okWide_struct Tryz.underlying24 hv; rw [c_prog] at hsz
 obtain ⟨c0, rfl⟩ : ∃ c0, cs = #[c0] := by
  obtain ⟨l⟩ := cs
  match l, hsz with
  | [x], _ => exact ⟨x, rfl⟩
 obtain ⟨fuel, hf⟩ := h; obtain ⟨xs, k, _, _, hlen, hxl, hf⟩ := DataW.trod_struct Tryz.underlying24 hf
 match xs, hxl with
 | [y0], _ =>
   have g0 := hf 0 _ rfl; simp [c_clss, Value.cells] at g0; obtain ⟨l, hl, ll⟩ := open_row (P := ClsX w) Tryz.underlying22 c_cls (by omega) (fun n cs x h => open_cls h) g0
   exact ⟨c0, l, rfl, hl, ll⟩
end
end Ox
namespace Ox
end Ox
theorem own : ownKnob Tryz.prog.godebug = none := by kernel_rfl
theorem laidOut : laidOutB Tryz.prog = true := by kernel_rfl
def strsData {H : Type} (ls : List (List UInt8)) : DataW H := .agg (ls.map fun l => .lit (.string l))
theorem cells_of_strs {H : Type} {enc : TypeId × Value -> H} {P : Program} {w : World} {base : Nat} {sp : Nat -> Bool} {held : Bool} {fuel : Nat} {t e : TypeId} {n : Nat} {cs : List Value} {ls : List (List UInt8)} {p : List MemPlace}
 (ht : P.underlying t = some (.array n e)) (he : P.underlying e = some .string) (hce : P.cellsOf e = 1) (hct : P.cellsOf t = n)
 (h : DataW.trod enc P w base sp held fuel t cs = some (strsData ls, p)) : cs = ls.map fun l => Value.string ⟨l.toArray⟩ := by
 cases fuel with
 | zero => simp [DataW.trod] at h
 | succ fuel =>
   simp only [DataW.trod, ht, hce, hct, Nat.mul_one] at h
   split at h
   · rename_i hl
     obtain ⟨xs, hm, hx⟩ := Option.map_eq_some_iff.1 h
     have hxs : xs.map (·.1) = ls.map fun l => (DataW.lit (.string l) : DataW H) := by
      have := congrArg Prod.fst hx
      simpa [strsData] using this
     have hxl : xs.length = n := by simpa using Lib.mapM_length hm
     have hzl : ls.length = n := by
      have := congrArg List.length hxs; simp at this; omega
     apply List.ext_getElem?; intro i; by_cases hi : i < n
     · obtain ⟨b, hb, hf⟩ := Lib.mapM_at hm i i (by simp [hi])
       obtain ⟨z, hc, rfl, _⟩ := DataW.trod_string he hf
       have h1 : cs[i]? = some (.string z) := by
        have := congrArg (·[0]?) hc
        simpa [List.getElem?_take, List.getElem?_drop] using this
       have h2 : (xs.map (·.1))[i]? = some (DataW.lit (.string z.data.toList) : DataW H) := by simp [hb]
       rw [hxs] at h2; simp only [List.getElem?_map, Option.map_eq_some_iff, DataW.lit.injEq, Lit.string.injEq] at h2; obtain ⟨z', hz', e'⟩ := h2; rw [h1, List.getElem?_map, hz']; simp [e']
     · rw [List.getElem?_eq_none (by omega), List.getElem?_eq_none (by simp; omega)]
   · cases h
theorem strs_of_head {P : Program} {W : World} {name : String} {ls : List (List UInt8)} {g : Nat} {t e : TypeId} {n : Nat}
 (hg : P.globalNamed name = some g) (hty : (P.globals[g]?).map (·.type) = some t) (ht : P.underlying t = some (.array n e)) (he : P.underlying e = some .string) (hce : P.cellsOf e = 1) (hct : P.cellsOf t = n)
 (h : laidMet P [(name, strsData ls)] W) : ∀ i l, ls[i]? = some l -> W.cell? ⟨g, i, none⟩ = some (strV l) := by
 obtain ⟨ps, ⟨g', t', cs, fuel, p, q, hg', ht', hvar, hd, _, _⟩, _⟩ := h; obtain rfl := Option.some.inj (hg.symm.trans hg'); obtain rfl := Option.some.inj (hty.symm.trans ht'); have hcs := cells_of_strs ht he hce hct hd; intro i l hl; have h1 := World.var?_cell hg hvar i; rw [h1]; have h2 : cs.toList[i]? = some (Value.string ⟨l.toArray⟩) := by rw [hcs]; simp [hl]
 simpa [strV] using h2
theorem keptData : (Rows.laid_delver_parse_kept : DataW Unit) = strsData Pp.keptWords := by kernel_rfl
theorem wordsData : (Rows.laid_delver_parse_words : DataW Unit) = strsData Pp.opWords := by kernel_rfl
theorem table {W : World} {laid : List (String × DataW Unit)} (h : laidMetH Tryz.prog laid W) (e1 : (laid.filter fun x => x.1 == "delver/parse.kept") = [("delver/parse.kept", Rows.laid_delver_parse_kept)]) (e2 : (laid.filter fun x => x.1 == "delver/parse.words") = [("delver/parse.words", Rows.laid_delver_parse_words)]) : TabS W := by
 have h1 := h.filter fun x => x.1 == "delver/parse.kept"; rw [e1, keptData] at h1; have h2 := h.filter fun x => x.1 == "delver/parse.words"; rw [e2, wordsData] at h2; have g1 : laidMet Tryz.prog [("delver/parse.kept", strsData Pp.keptWords)] W := h1; have g2 : laidMet Tryz.prog [("delver/parse.words", strsData Pp.opWords)] W := h2; exact ⟨strs_of_head (by kernel_rfl) (by kernel_rfl) Tryz.underlying192 Tryz.underlying9 (by kernel_rfl) (by kernel_rfl) g2, strs_of_head (by kernel_rfl) (by kernel_rfl) Tryz.underlying168 Tryz.underlying9 (by kernel_rfl) (by kernel_rfl) g1⟩
def valOf : DataW Unit -> Value
 | .lit (.int k n) => .int k n
 | .lit (.string l) => .string ⟨l.toArray⟩
 | _ => undef
def tabCells : DataW Unit -> Array Value
 | .agg ds => (ds.map valOf).toArray
 | _ => #[]
def putTab (d : DataW Unit) : Obj -> Obj
 | .cells _ t f => .cells (tabCells d) t f
 | o => o
def laidWorld (P : Program) (os : Os) : World :=
 { World.holding P os ⟨#[], #[], []⟩ with heap := ((World.holding P os ⟨#[], #[], []⟩).heap.modify 1 (putTab Rows.laid_delver_parse_words)).modify 0 (putTab Rows.laid_delver_parse_kept) }
end Go.Proofs.YtbbbnciejmdpfabGreatDoor

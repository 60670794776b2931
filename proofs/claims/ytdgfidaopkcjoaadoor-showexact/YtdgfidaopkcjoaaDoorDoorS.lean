/- The tables as the rows list them; a world for a witness; rows that came in. -/
import Derived.Test.YtdgfidaopkcjoaaDoorMgC
import Derived.Test.YtdgfidaopkcjoaaDoorCards
import Derived.Test.YtdgfidaopkcjoaaDoorTie
import Derived.ProofKit
import Derived.OpenShut
import Derived.Deep.DeepHandedRow
import Derived.Lib.LaidTab
import Derived.LaidSub
import Derived.ChangeOld
import Derived.ShutString
namespace Go.Proofs.YtdgfidaopkcjoaaDoor
open Go.ChangeShapes Go.WideShapes Go.ChangeAt Go.RowKit
set_option linter.unusedVariables false
set_option linter.unusedSimpArgs false

theorem own : ownKnob Tryd.prog.godebug = none := by kernel_rfl
theorem laidOut : laidOutB Tryd.prog = true := by kernel_rfl

def strsData {H : Type} (ls : List (List UInt8)) : DataW H := .agg (ls.map fun l => .lit (.string l))
theorem cells_of_strs {H : Type} {enc : TypeId × Value → H} {P : Program} {w : World} {base : Nat} {sp : Nat → Bool} {held : Bool} {fuel : Nat} {t e : TypeId} {n : Nat} {cs : List Value} {ls : List (List UInt8)} {p : List MemPlace}
    (ht : P.underlying t = some (.array n e)) (he : P.underlying e = some .string) (hce : P.cellsOf e = 1) (hct : P.cellsOf t = n)
    (h : DataW.trod enc P w base sp held fuel t cs = some (strsData ls, p)) : cs = ls.map fun l => Value.string ⟨l.toArray⟩ := by
  cases fuel with
  | zero => simp [DataW.trod] at h
  | succ fuel =>
    simp only [DataW.trod, ht, hce, hct, Nat.mul_one] at h
    split at h
    · rename_i hl
      obtain ⟨xs, hm, hx⟩ := Option.map_eq_some_iff.1 h
      have hxs : xs.map (·.1) = ls.map fun l => (DataW.lit (.string l) : DataW H) := by
        have := congrArg Prod.fst hx
        simpa [strsData] using this
      have hxl : xs.length = n := by simpa using Lib.mapM_length hm
      have hzl : ls.length = n := by
        have := congrArg List.length hxs
        simp at this
        omega
      apply List.ext_getElem?
      intro i
      by_cases hi : i < n
      · obtain ⟨b, hb, hf⟩ := Lib.mapM_at hm i i (by simp [hi])
        obtain ⟨z, hc, rfl, _⟩ := DataW.trod_string he hf
        have h1 : cs[i]? = some (.string z) := by
          have := congrArg (·[0]?) hc
          simpa [List.getElem?_take, List.getElem?_drop] using this
        have h2 : (xs.map (·.1))[i]? = some (DataW.lit (.string z.data.toList) : DataW H) := by simp [hb]
        rw [hxs] at h2
        simp only [List.getElem?_map, Option.map_eq_some_iff, DataW.lit.injEq, Lit.string.injEq] at h2
        obtain ⟨z', hz', e'⟩ := h2
        rw [h1, List.getElem?_map, hz']
        simp [e']
      · rw [List.getElem?_eq_none (by omega), List.getElem?_eq_none (by simp; omega)]
    · cases h
theorem strs_of_head {P : Program} {W : World} {name : String} {ls : List (List UInt8)} {g : Nat} {t e : TypeId} {n : Nat}
    (hg : P.globalNamed name = some g) (hty : (P.globals[g]?).map (·.type) = some t) (ht : P.underlying t = some (.array n e)) (he : P.underlying e = some .string) (hce : P.cellsOf e = 1) (hct : P.cellsOf t = n)
    (h : laidMet P [(name, strsData ls)] W) : ∀ i l, ls[i]? = some l → W.cell? ⟨g, i, none⟩ = some (strV l) := by
  obtain ⟨ps, ⟨g', t', cs, fuel, p, q, hg', ht', hvar, hd, _, _⟩, _⟩ := h
  obtain rfl := Option.some.inj (hg.symm.trans hg')
  obtain rfl := Option.some.inj (hty.symm.trans ht')
  have hcs := cells_of_strs ht he hce hct hd
  intro i l hl
  have h1 := World.var?_cell hg hvar i
  rw [h1]
  have h2 : cs.toList[i]? = some (Value.string ⟨l.toArray⟩) := by rw [hcs]; simp [hl]
  simpa [strV] using h2

theorem keptData : (Rows.laid_delver_parse_kept : DataW Unit) = strsData Pp.keptWords := by kernel_rfl
theorem wordsData : (Rows.laid_delver_parse_words : DataW Unit) = strsData Pp.opWords := by kernel_rfl
theorem table {W : World} {laid : List (String × DataW Unit)} (h : laidMetH Tryd.prog laid W) (e1 : (laid.filter fun x => x.1 == "delver/parse.kept") = [("delver/parse.kept", Rows.laid_delver_parse_kept)]) (e2 : (laid.filter fun x => x.1 == "delver/parse.words") = [("delver/parse.words", Rows.laid_delver_parse_words)]) : TabS W := by
  have h1 := h.filter fun x => x.1 == "delver/parse.kept"
  rw [e1, keptData] at h1
  have h2 := h.filter fun x => x.1 == "delver/parse.words"
  rw [e2, wordsData] at h2
  have g1 : laidMet Tryd.prog [("delver/parse.kept", strsData Pp.keptWords)] W := h1
  have g2 : laidMet Tryd.prog [("delver/parse.words", strsData Pp.opWords)] W := h2
  exact ⟨strs_of_head (by kernel_rfl) (by kernel_rfl) Tryd.underlying119 Tryd.underlying9 (by kernel_rfl) (by kernel_rfl) g2, strs_of_head (by kernel_rfl) (by kernel_rfl) Tryd.underlying106 Tryd.underlying9 (by kernel_rfl) (by kernel_rfl) g1⟩

def valOf : DataW Unit → Value
  | .lit (.int k n) => .int k n
  | .lit (.string l) => .string ⟨l.toArray⟩
  | _ => undef
def tabCells : DataW Unit → Array Value
  | .agg ds => (ds.map valOf).toArray
  | _ => #[]
def putTab (d : DataW Unit) : Obj → Obj
  | .cells _ t f => .cells (tabCells d) t f
  | o => o
def laidWorld (P : Program) (os : Os) : World :=
  { World.holding P os ⟨#[], #[], []⟩ with heap := (((((World.holding P os ⟨#[], #[], []⟩).heap.modify 2 (putTab Rows.laid_delver_parse_words)).modify 0 (putTab Rows.laid_delver_parse_kept)).modify 3 (putTab Rows.laid_internal_strconv_uint64pow10)).modify 4 (putTab Rows.laid_math_bits_deBruijn32tab)).modify 5 (putTab Rows.laid_math_bits_deBruijn64tab) }

theorem gTabType : (Tryd.prog.globals[3]?).map (·.type) = some 128 := by kernel_rfl
theorem cellsPow : Tryd.prog.cellsOf 128 = 20 := by kernel_rfl
theorem elemPow : ∃ e, Tryd.prog.underlying 128 = some (.array 20 e) ∧ Tryd.prog.underlying e = some (.int .u64) ∧ Tryd.prog.cellsOf e = 1 := ⟨_, Tryd.underlying128, by kernel_rfl, by kernel_rfl⟩
theorem powData : (Rows.laid_internal_strconv_uint64pow10 : DataW Unit) = Lib.tabData .u64 Lib.pow10Tab := by kernel_rfl
theorem tabPow {W : World} {laid : List (String × DataW Unit)} (h : laidMetH Tryd.prog laid W) (e1 : (laid.filter fun x => x.1 == "internal/strconv.uint64pow10") = [("internal/strconv.uint64pow10", Rows.laid_internal_strconv_uint64pow10)]) : Tab W := by
  have h1 := h.filter fun x => x.1 == "internal/strconv.uint64pow10"
  rw [e1, powData] at h1
  have h2 : laidMet Tryd.prog [("internal/strconv.uint64pow10", Lib.tabData .u64 Lib.pow10Tab)] W := h1
  obtain ⟨e, ht, he, hc⟩ := elemPow
  exact Lib.tabIs_of_head (rest := []) gTab gTabType ht he hc cellsPow h2
def IsRow (k : IntKind) (w : World) (a : Option Addr) (len cap : Nat) (zs : List Int) : Prop :=
  (a = none ∧ len = 0 ∧ cap = 0 ∧ zs = []) ∨
  ∃ x, a = some x ∧ len ≤ cap ∧ cap ≤ maxLen ∧ zs.length = cap ∧ (∀ i, i < zs.length → w.cell? (x.add i) = some (.int k (zs.getD i 0))) ∧ ∀ n ∈ zs, (Lit.int k n).wf = true

theorem tabs_lt {w : World} (ht : TabS w) (hp : Tab w) : 3 < w.heap.size ∧ 2 < w.heap.size ∧ 0 < w.heap.size := by
  refine ⟨?_, World.block_lt_of_cell? w _ (ht.words 0 _ rfl), World.block_lt_of_cell? w _ (ht.kept 0 _ rfl)⟩
  unfold Tab Lib.TabIs World.var? at hp
  simp only [gTab, Option.bind_some] at hp
  rcases Nat.lt_or_ge 3 w.heap.size with h' | h'
  · exact h'
  · simp [Array.getElem?_eq_none h'] at hp

end Go.Proofs.YtdgfidaopkcjoaaDoor

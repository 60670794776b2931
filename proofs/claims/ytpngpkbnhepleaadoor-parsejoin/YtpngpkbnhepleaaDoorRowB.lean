/- Rows of bytes that came in: what Scan, Program, Join answer of them. -/
import Derived.Test.YtpngpkbnhepleaaDoorKeepB
import Derived.Test.YtpngpkbnhepleaaDoorJoinA
import Derived.Test.YtpngpkbnhepleaaDoorMgA
import Derived.OpenShut
namespace Go.Proofs.YtpngpkbnhepleaaDoor
open Go.RowKit
set_option linter.unusedVariables false
set_option linter.unusedSimpArgs false

def RowB (w : World) (a : Option Addr) (n c : Nat) (bs : List UInt8) : Prop :=
  (a = none ∧ n = 0 ∧ c = 0 ∧ bs = []) ∨
  ∃ x, a = some x ∧ n ≤ c ∧ bs.length = n ∧ (n = 0 ∨ ∃ b off, x = ⟨b, off, none⟩ ∧ b < w.heap.size ∧ ∀ k, k < bs.length → w.cell? ⟨b, off + k, none⟩ = some (.int .u8 ((bs.getD k 0).toNat : Int)))
theorem RowB.len {w : World} {a : Option Addr} {n c : Nat} {bs : List UInt8} (h : RowB w a n c bs) : bs.length = n := by
  rcases h with ⟨_, rfl, _, rfl⟩ | ⟨x, _, _, h, _⟩
  · rfl
  · exact h
theorem RowB.on {w w' : World} {a : Option Addr} {n c : Nat} {bs : List UInt8} (h : RowB w a n c bs) (hb : Below w.heap.size w w') : RowB w' a n c bs := by
  rcases h with h | ⟨x, rfl, h1, h2, h3⟩
  · exact .inl h
  · refine .inr ⟨x, rfl, h1, h2, ?_⟩
    rcases h3 with h3 | ⟨b, off, rfl, hlt, hc⟩
    · exact .inl h3
    · exact .inr ⟨b, off, rfl, Nat.lt_of_lt_of_le hlt hb.size, fun k hk => (hb.cell (by exact hlt)).trans (hc k hk)⟩
theorem own_rowB {w : World} {base : Nat} {v : Value} {bs : List UInt8} (h : w.ownsRow base 5 1 v bs.length (bs.map byteV)) : ∃ a c, v = .slice a bs.length c ∧ RowB w a bs.length c bs := by
  by_cases hl : bs = []
  · subst hl
    obtain ⟨a, c, rfl⟩ := own_shape h
    refine ⟨a, c, rfl, ?_⟩
    rcases h.2 with ⟨h1, _⟩ | ⟨g, cap, cur, h1, _⟩
    · injection h1 with h1 h2 h3
      subst h1; subst h3
      exact .inl ⟨rfl, rfl, rfl, rfl⟩
    · injection h1 with h1 h2 h3
      subst h1
      exact .inr ⟨_, rfl, by simp, rfl, .inl rfl⟩
  · obtain ⟨g, cap, rfl, _, hg, hnc, _, hc⟩ := own_some h (List.length_pos_iff.2 hl)
    refine ⟨_, cap, rfl, .inr ⟨_, rfl, hnc, rfl, .inr ⟨g, 0, rfl, hg, fun k hk => ?_⟩⟩⟩
    rw [Nat.zero_add]
    exact hc k _ (by simp [List.getD, hk, byteV])
theorem scans_row {w : World} {a : Option Addr} {n c : Nat} {bs : List UInt8} (h : RowB w a n c bs) (hm : n ≤ maxLen) : Scans w (.slice a n c) bs := by
  have hl := h.len
  by_cases h0 : n = 0
  · subst h0
    have hb : bs = [] := List.eq_nil_of_length_eq_zero hl
    subst hb
    intro w' hb
    refine (Scan_empty a c w').mono ?_
    rintro e w'' ⟨rfl, rfl⟩
    exact ⟨_, rfl, World.ownsRow_nil _ _ _ _, Below.refl _ _⟩
  by_cases h6 : 6000 < n
  · intro w' hb
    have e : Lx.scanL bs = ([], 0, 2) := by rw [Lx.scanL, if_pos (by omega)]
    rw [e]
    refine (Scan_long a n c h6 hm w').mono ?_
    rintro e w'' ⟨rfl, rfl⟩
    exact ⟨_, rfl, World.ownsRow_nil _ _ _ _, Below.refl _ _⟩
  rcases h with ⟨_, h, _⟩ | ⟨x, rfl, h1, h2, h3 | ⟨b, off, rfl, hlt, hc⟩⟩
  · exact absurd h h0
  · exact absurd h3 h0
  · subst h2
    exact scans_of w bs b off c (by omega) h1 hlt hc
theorem Scans.on {w w' : World} {v : Value} {bs : List UInt8} (h : Scans w v bs) (hb : Below w.heap.size w w') : Scans w' v bs := fun w'' hb2 => h w'' (hb.trans (hb2.mono hb.size))
/-- Program over bytes that came in. -/
theorem Program_row {w : World} {a : Option Addr} {n c : Nat} {bs : List UInt8} (h : RowB w a n c bs) (hm : n ≤ maxLen) (ht : TabS w) :
    Calls Tryd.prog 10 #[.slice a n c] w fun e w' => ∃ v, e = .returned (.tuple #[.agg #[v], .int .i64 ((Pp.program bs).2.1 : Int), .int .i64 (Pp.program bs).2.2]) ∧ ProgP w' v (Pp.program bs).1 ∧ Below w.heap.size w w' :=
  (Program_any (scans_row h hm) h.len.symm hm ht).mono fun e w' ⟨v, h1, h2, h3⟩ => ⟨v, h1, progIs_P h2, h3⟩
theorem Join_toks {w : World} {base : Nat} {vw : Value} {l : List Lx.Tok} {jb : List UInt8} (hv : ∀ t ∈ l, Lx.ValidT t) (h6 : l.length ≤ 6000) (hj : Lx.joinL (l.map Lx.toA) = some jb) (ho : w.ownsRow base 77 4 vw l.length (toksCells l)) (ht : Tab w) (k : Nat) (hk : k ≤ l.length) :
    Calls Tryd.prog 22 #[vw] w fun e w' => ∃ v, e = .returned (.tuple #[v, .int .i64 0]) ∧ w'.ownsRow w.heap.size 5 1 v jb.length (jb.map byteV) ∧ Below w.heap.size w w' := by
  by_cases hl : l = []
  · subst hl
    obtain ⟨a, c, rfl⟩ := own_shape ho
    have e : jb = [] := by simpa [Lx.joinL, Lx.joinGo] using hj.symm
    subst e
    refine (Join_empty a c w).mono ?_
    rintro e w' ⟨rfl, rfl⟩
    exact ⟨_, rfl, World.ownsRow_nil _ _ _ _, Below.refl _ _⟩
  · obtain ⟨g, cap, rfl, _, hg, hnc, _, hc⟩ := own_some ho (List.length_pos_iff.2 hl)
    have hA : ToksAt w g 0 (l.map Lx.toA) := by
      intro j t hj
      rw [List.getElem?_map, Option.map_eq_some_iff] at hj
      obtain ⟨x, hx, rfl⟩ := hj
      have hcc : ∀ c u, c < 4 → (tokCells x)[c]? = some u → w.cell? ⟨g, j * 4 + c, none⟩ = some u := fun c u h1 h2 => hc _ _ (by rw [toksCells_get l j c x hx h1]; exact h2)
      rw [Nat.zero_add]
      exact ⟨hcc 0 _ (by omega) rfl, hcc 1 _ (by omega) rfl, hcc 2 _ (by omega) rfl, hcc 3 _ (by omega) rfl⟩
    have h := Join_any (l.map Lx.toA) g 0 cap w (by simpa using h6) (by simpa using hnc) hg ht hA (fun t ht => by
      obtain ⟨x, hx, rfl⟩ := List.mem_map.1 ht
      show x.text.length ≤ maxLen
      have := (Lx.wordA_len _ _ (Lx.wordA_valid x (hv x hx))).2
      rcases hv x hx with ⟨h1, h2, h3⟩ | ⟨h1, h2, h3⟩ | ⟨h1, h2, h3, h4⟩
      · have := Lx.nameL_len _ h2; unfold maxLen; omega
      · have := Lx.signL_len _ h2; unfold maxLen; omega
      · rw [h2]; unfold maxLen; simp)
    rw [hj, List.length_map] at h
    exact h
theorem row_of (w : World) (a : Option Addr) (n c : Nat) (zs : List Int) (hz : (a = none ∧ n = 0 ∧ c = 0 ∧ zs = []) ∨
    ∃ x, a = some x ∧ n ≤ c ∧ c ≤ maxLen ∧ zs.length = c ∧ (∀ i, i < zs.length → w.cell? (x.add i) = some (.int .u8 (zs.getD i 0))) ∧ ∀ n ∈ zs, (Lit.int .u8 n).wf = true) : n ≤ maxLen ∧ ∃ bs, RowB w a n c bs := by
  rcases hz with ⟨rfl, rfl, rfl, _⟩ | ⟨x, rfl, h1, h2, h3, h4, h5⟩
  · exact ⟨by unfold maxLen; omega, [], .inl ⟨rfl, rfl, rfl, rfl⟩⟩
  · refine ⟨by omega, (zs.take n).map fun z => UInt8.ofNat z.toNat, .inr ⟨x, rfl, h1, by simp; omega, ?_⟩⟩
    rcases Nat.eq_zero_or_pos n with h0 | h0
    · exact .inl h0
    · obtain ⟨b, off, rfl, hc⟩ := ints_at h4 (by omega)
      refine .inr ⟨b, off, rfl, World.block_lt_of_cell? w _ (hc 0 (by omega)), fun k hk => ?_⟩
      have hk' : k < zs.length := by simp at hk; omega
      have hkn : k < n := by simp at hk; omega
      rw [hc k hk']
      have hm : zs[k] ∈ zs := List.getElem_mem hk'
      have hb : 0 ≤ zs[k] ∧ zs[k] ≤ 255 := by simpa [Lit.wf, IntKind.min, IntKind.max, IntKind.signed, IntKind.bits] using h5 _ hm
      have hu : ((UInt8.ofNat zs[k].toNat).toNat : Int) = zs[k] := by
        rw [UInt8.toNat_ofNat_of_lt' (by rw [show UInt8.size = 256 from rfl]; omega)]; omega
      have e1 : zs.getD k 0 = zs[k] := by simp [List.getD, hk']
      have e2 : ((zs.take n).map fun z => UInt8.ofNat z.toNat).getD k 0 = UInt8.ofNat zs[k].toNat := by
        simp [List.getD, hk', hkn]
      rw [e1, e2, hu]
namespace Pp
theorem scan_VW (bs : List UInt8) : VW ((Lx.scanL bs).1.map wd) := by
  intro w hw hk
  obtain ⟨t, ht, rfl⟩ := List.mem_map.1 hw
  rcases Lx.scanL_valid bs t ht with ⟨h1, h2, h3⟩ | ⟨h1, h2, h3⟩ | ⟨h1, h2, h3, h4⟩
  · exact h2
  · have h4 : t.kind = 1 := hk
    rw [h1] at h4; cases h4
  · have h5 : t.kind = 1 := hk
    rw [h1] at h5; cases h5
theorem program_ok (bs : List UInt8) : okProg (program bs).1 := by
  unfold program
  simp only
  split
  · rename_i h
    exact ens_progP _ _ (scan_VW bs) h
  · exact ⟨by simp, by simp⟩
end Pp
theorem short_of_ok {cs : List Pp.Cls} (h : Pp.okProg cs) : Short cs := by
  refine ⟨by have := h.1; omega, fun c hc => ?_⟩
  obtain ⟨_, _, ⟨h3, _⟩, ⟨h5, _⟩, h7, h8⟩ := h.2 c hc
  refine ⟨by omega, by omega, by omega, fun m hm => ?_⟩
  obtain ⟨_, ⟨g2, _⟩, _, g5⟩ := h8 m hm
  rcases g5 with ⟨_, _, e1, e2⟩ | ⟨_, _, ⟨e1, _⟩, e2, _⟩
  · rw [e1, e2]; simp; omega
  · omega

end Go.Proofs.YtpngpkbnhepleaaDoor

/- LexBlanks: the walk: however many blanks stand between words, they are the same words. -/
import Derived.Test.YtiglcjcellhggaaDoorBlanks1
namespace Go.Proofs.YtiglcjcellhggaaDoor
open Go.RowKit
set_option linter.unusedVariables false
set_option linter.unusedSimpArgs false

def IsRow (k : IntKind) (w : World) (a : Option Addr) (len cap : Nat) (zs : List Int) : Prop :=
  (a = none ∧ len = 0 ∧ cap = 0 ∧ zs = []) ∨
  ∃ x, a = some x ∧ len ≤ cap ∧ cap ≤ maxLen ∧ zs.length = cap ∧ (∀ i, i < zs.length → w.cell? (x.add i) = some (.int k (zs.getD i 0))) ∧ ∀ n ∈ zs, (Lit.int k n).wf = true
def GapsAt (w : World) (a : Option Addr) (n : Nat) : Prop := n = 0 ∨ ∃ b off, a = some ⟨b, off, none⟩ ∧ b < w.heap.size ∧ ∀ k, k < n → ∃ z : Int, w.cell? ⟨b, off + k, none⟩ = some (.int .i64 z)
def strSize : Value → Nat | .string s => s.size | _ => 0

set_option maxHeartbeats 1000000 in
theorem blanks_long (a a2 : Option Addr) (n c n2 c2 : Nat) (hm : n ≤ maxLen) (hm2 : n2 ≤ maxLen) (h : 60 < n ∨ 100 < n2) (w : World) :
    Calls Tryd.prog 5 #[.slice a n c, .slice a2 n2 c2] w fun e w' => e = .returned (.bool true) ∧ Below w.heap.size w w' := by
  unfold maxLen at hm hm2
  by_cases h1 : 60 < n
  · go_enter Tryd.func5, Tryd.ntmps5
    go_wp2_with fail
    go_ret
    exact ⟨rfl, Below.refl _ _⟩
  · have h2 : 100 < n2 := by omega
    go_enter Tryd.func5, Tryd.ntmps5
    go_wp2_with fail
    go_ret
    exact ⟨rfl, Below.refl _ _⟩

set_option maxHeartbeats 8000000 in
set_option maxRecDepth 100000 in
theorem blanks_walk (xs : List Lx.ATok) (b1 o1 c1 : Nat) (a2 : Option Addr) (n2 c2 : Nat) (w : World) (ht : Tab w) (hx1 : 1 ≤ xs.length) (hx2 : xs.length ≤ 60) (hc1 : xs.length ≤ c1) (hn2 : n2 ≤ 100)
    (hb1 : b1 < w.heap.size) (htx : ToksAt w b1 o1 xs) (hlx : ∀ t ∈ xs, t.text.length ≤ maxLen) (hgp : GapsAt w a2 n2) :
    Calls Tryd.prog 5 #[.slice (some ⟨b1, o1, none⟩) xs.length c1, .slice a2 n2 c2] w fun e w' => e = .returned (.bool true) ∧ Below w.heap.size w w' := by
  have HT : Hid (Tab w) := ht
  have HX : Hid (ToksAt w b1 o1 xs) := htx
  have HLX : Hid (∀ t ∈ xs, t.text.length ≤ maxLen) := hlx
  have HG : Hid (GapsAt w a2 n2) := hgp
  clear ht htx hlx hgp
  go_enter Tryd.func5, Tryd.ntmps5
  go_wp2_with fail
  obtain ⟨w0, hw0⟩ : ∃ w0, w0 = w.alloc (.cells #[.string ⟨#[32]⟩, .string ⟨#[9]⟩, .string ⟨#[10]⟩, .string ⟨#[13]⟩] 9) := ⟨_, rfl⟩
  have hB0 : Below w.heap.size w w0 := by rw [hw0]; exact (Below.refl _ _).alloc (Nat.le_refl _) _
  have hsz0 : w0.heap.size = w.heap.size + 1 := by rw [hw0]; simp
  have HSG : Hid (∀ q, q < 4 → w0.cell? ⟨w.heap.size, q, none⟩ = some (.string ⟨#[Lx.bl q]⟩)) := fun q hq => by
    rw [hw0, cell_marked]
    match q, hq with
    | 0, _ => rfl
    | 1, _ => rfl
    | 2, _ => rfl
    | 3, _ => rfl
  rw [← hw0]
  have HSZ : Hid (w0.heap.size = w.heap.size + 1) := hsz0
  have hs0 : w.heap.size < w0.heap.size := by omega
  clear hw0 hsz0
  go_loopw [6, 7] (fun s i wr => ∃ (k : Nat) (S : List UInt8), k ≤ xs.length ∧ i = .int .i64 k ∧ s = .string ⟨S.toArray⟩ ∧ S.length ≤ 26 * k ∧ Below w0.heap.size w0 wr ∧ Hid (Lx.TextOf (xs.take k) S)) (fun _ i _ => xs.length - (intOf i).toNat)
  case atStart => exact ⟨0, [], Nat.zero_le _, rfl, rfl, by simp, Below.refl _ _, rfl⟩
  case round =>
    obtain ⟨k, S, hk, rfl, rfl, hS, hbel, HTX⟩ := hrel
    have hsr := hbel.size
    by_cases hlt : k < xs.length
    · obtain ⟨t, ht⟩ : ∃ t, xs[k]? = some t := ⟨xs[k], List.getElem?_eq_getElem hlt⟩
      have hBw : Below w.heap.size w wr := hB0.trans (hbel.mono (by omega))
      have hj := Join_any [t] b1 (o1 + k * 4) (c1 - k) wr (by simp) (by simp; omega) (by omega) (HT.out.on hBw) (toksAt_one (HX.out.on hBw hb1) ht) (fun x hx => by
        simp at hx; subst hx; exact HLX.out _ (List.mem_of_getElem? ht))
      rw [Lx.joinL_one] at hj
      have HTK : Hid (xs.take (k + 1) = xs.take k ++ [t]) := Lx.take_snocA xs k t ht
      clear ht
      cases hw : Lx.wordA t with
      | none =>
        rw [hw] at hj
        simp only [errOf, Option.getD_none, List.length_cons, List.length_nil] at hj
        clear hw
        go_wp2_with fail
        refine hj.mono ?_
        clear hj
        rintro e w1 ⟨v1, rfl, hown1, hB1⟩
        clear hown1
        go_wp2_with fail
        go_ret
        exact ⟨rfl, hBw.trans (hB1.mono hBw.size)⟩
      | some l =>
        rw [hw] at hj
        simp only [errOf, Option.getD_some, List.length_cons, List.length_nil] at hj
        have hll := Lx.wordA_len t l hw
        have HW : Hid (Lx.wordA t = some l) := hw
        clear hw
        go_wp2_with fail
        refine hj.mono ?_
        clear hj
        rintro e w1 ⟨v1, rfl, hown1, hB1⟩
        obtain ⟨g1, cv1, rfl, hg1, hg1', hnc1, hcm1, hcell1⟩ := own_some hown1 (by omega)
        have hcv := fun c => conv_own l w1 g1 0 hcell1 c
        clear hown1 hcell1
        have hB01 : Below w0.heap.size w0 w1 := hbel.trans (hB1.mono hsr)
        have hBw1 : Below w.heap.size w w1 := hBw.trans (hB1.mono hBw.size)
        have hsg0 : w1.cell? ⟨w.heap.size, 0, none⟩ = some (.string ⟨#[Lx.bl 0]⟩) := (hB01.cell (by exact hs0)).trans (HSG.out 0 (by omega))
        have hsg1 : w1.cell? ⟨w.heap.size, 1, none⟩ = some (.string ⟨#[Lx.bl 1]⟩) := (hB01.cell (by exact hs0)).trans (HSG.out 1 (by omega))
        have hsg2 : w1.cell? ⟨w.heap.size, 2, none⟩ = some (.string ⟨#[Lx.bl 2]⟩) := (hB01.cell (by exact hs0)).trans (HSG.out 2 (by omega))
        have hsg3 : w1.cell? ⟨w.heap.size, 3, none⟩ = some (.string ⟨#[Lx.bl 3]⟩) := (hB01.cell (by exact hs0)).trans (HSG.out 3 (by omega))
        by_cases hgk : k < n2
        · obtain ⟨b2, o2, rfl, hb2, hcg⟩ : ∃ b off, a2 = some ⟨b, off, none⟩ ∧ b < w.heap.size ∧ ∀ k, k < n2 → ∃ z : Int, w.cell? ⟨b, off + k, none⟩ = some (.int .i64 z) := by
            rcases HG.out with h | h
            · omega
            · exact h
          obtain ⟨z, hz⟩ := hcg k hgk
          have hz1 : w1.cell? ⟨b2, o2 + k, none⟩ = some (.int .i64 z) := (hBw1.cell (by exact hb2)).trans hz
          clear hcg hz
          obtain ⟨m, hm1, hm5, hm⟩ := pick5 z
          go_wp2_with fail
          try rw [hm]
          clear hm hz1
          go_loop [6, 11] (fun s i => ∃ (j : Nat) (G : List UInt8), j ≤ m ∧ i = .int .i64 j ∧ Hid (G.length = j) ∧ Hid (G.all Lx.blk = true) ∧ s = .string ⟨(S ++ G).toArray⟩) (fun _ i => m - (intOf i).toNat)
          case atStart => exact ⟨0, [], by omega, rfl, rfl, rfl, by rw [List.append_nil]⟩
          case round =>
            obtain ⟨j, G, hj, rfl, HGL, HGB, rfl⟩ := hrel
            have hsz : (⟨(S ++ G).toArray⟩ : ByteArray).size ≤ 26 * k + 5 := by rw [str_size, List.length_append, HGL.out]; omega
            by_cases hjl : j < m
            · have hq : (k + j) % 4 = 0 ∨ (k + j) % 4 = 1 ∨ (k + j) % 4 = 2 ∨ (k + j) % 4 = 3 := by omega
              rcases hq with hq | hq | hq | hq
              · have hq' : ((k : Int) + (j : Int)) % 4 = 0 := by omega
                have HST : Hid ((⟨(S ++ G).toArray⟩ : ByteArray) ++ ⟨#[Lx.bl 0]⟩ = ⟨(S ++ (G ++ [Lx.bl 0])).toArray⟩) := by have := str_app (S ++ G) [Lx.bl 0]; rw [List.append_assoc] at this; exact this
                have HB2 : Hid ((G ++ [Lx.bl 0]).all Lx.blk = true) := by show _ = _; rw [Lx.all_snoc, HGB.out, Lx.bl_blk 0 (by omega)]; rfl
                generalize (⟨(S ++ G).toArray⟩ : ByteArray) = T at *
                clear hq
                go_wp2_with fail
                go_round
                case rel => exact ⟨j + 1, G ++ [Lx.bl 0], by omega, by go_num, by show _ = _; rw [List.length_append, HGL.out]; rfl, HB2, by rw [← HST.out]⟩
                case measure => simp [intOf]; omega
              · have hq' : ((k : Int) + (j : Int)) % 4 = 1 := by omega
                have HST : Hid ((⟨(S ++ G).toArray⟩ : ByteArray) ++ ⟨#[Lx.bl 1]⟩ = ⟨(S ++ (G ++ [Lx.bl 1])).toArray⟩) := by have := str_app (S ++ G) [Lx.bl 1]; rw [List.append_assoc] at this; exact this
                have HB2 : Hid ((G ++ [Lx.bl 1]).all Lx.blk = true) := by show _ = _; rw [Lx.all_snoc, HGB.out, Lx.bl_blk 1 (by omega)]; rfl
                generalize (⟨(S ++ G).toArray⟩ : ByteArray) = T at *
                clear hq
                go_wp2_with fail
                go_round
                case rel => exact ⟨j + 1, G ++ [Lx.bl 1], by omega, by go_num, by show _ = _; rw [List.length_append, HGL.out]; rfl, HB2, by rw [← HST.out]⟩
                case measure => simp [intOf]; omega
              · have hq' : ((k : Int) + (j : Int)) % 4 = 2 := by omega
                have HST : Hid ((⟨(S ++ G).toArray⟩ : ByteArray) ++ ⟨#[Lx.bl 2]⟩ = ⟨(S ++ (G ++ [Lx.bl 2])).toArray⟩) := by have := str_app (S ++ G) [Lx.bl 2]; rw [List.append_assoc] at this; exact this
                have HB2 : Hid ((G ++ [Lx.bl 2]).all Lx.blk = true) := by show _ = _; rw [Lx.all_snoc, HGB.out, Lx.bl_blk 2 (by omega)]; rfl
                generalize (⟨(S ++ G).toArray⟩ : ByteArray) = T at *
                clear hq
                go_wp2_with fail
                go_round
                case rel => exact ⟨j + 1, G ++ [Lx.bl 2], by omega, by go_num, by show _ = _; rw [List.length_append, HGL.out]; rfl, HB2, by rw [← HST.out]⟩
                case measure => simp [intOf]; omega
              · have hq' : ((k : Int) + (j : Int)) % 4 = 3 := by omega
                have HST : Hid ((⟨(S ++ G).toArray⟩ : ByteArray) ++ ⟨#[Lx.bl 3]⟩ = ⟨(S ++ (G ++ [Lx.bl 3])).toArray⟩) := by have := str_app (S ++ G) [Lx.bl 3]; rw [List.append_assoc] at this; exact this
                have HB2 : Hid ((G ++ [Lx.bl 3]).all Lx.blk = true) := by show _ = _; rw [Lx.all_snoc, HGB.out, Lx.bl_blk 3 (by omega)]; rfl
                generalize (⟨(S ++ G).toArray⟩ : ByteArray) = T at *
                clear hq
                go_wp2_with fail
                go_round
                case rel => exact ⟨j + 1, G ++ [Lx.bl 3], by omega, by go_num, by show _ = _; rw [List.length_append, HGL.out]; rfl, HB2, by rw [← HST.out]⟩
                case measure => simp [intOf]; omega
            · have HST : Hid ((⟨(S ++ G).toArray⟩ : ByteArray) ++ ⟨l.toArray⟩ = ⟨(S ++ (G ++ l)).toArray⟩) := by have := str_app (S ++ G) l; rw [List.append_assoc] at this; exact this
              have HTX2 : Hid (Lx.TextOf (xs.take (k + 1)) (S ++ (G ++ l))) := by
                show Lx.TextOf _ _
                rw [HTK.out]
                exact Lx.textOf_snoc _ S G l t HTX.out HGB.out (fun e => by have := HGL.out; rw [e] at this; simp at this; omega) HW.out
              have hlen2 : (S ++ (G ++ l)).length ≤ 26 * (k + 1) := by simp only [List.length_append, HGL.out]; omega
              have hsl : (⟨l.toArray⟩ : ByteArray).size ≤ 21 := by rw [str_size]; omega
              generalize (⟨(S ++ G).toArray⟩ : ByteArray) = T at *
              generalize (⟨l.toArray⟩ : ByteArray) = L at *
              have hadd := fun W => run_string_add_sum (P := Tryd.prog) W T L (by omega)
              clear hsz hsl
              go_wp2_with fail
              go_roundw
              case rel => exact ⟨k + 1, S ++ (G ++ l), by omega, by go_num, by rw [← HST.out], hlen2, hB01, HTX2⟩
              case measure => simp [intOf]; omega
        · go_wp2_with fail
          go_loop [6, 11] (fun s i => ∃ (j : Nat) (G : List UInt8), j ≤ 1 ∧ i = .int .i64 j ∧ Hid (G.length = j) ∧ Hid (G.all Lx.blk = true) ∧ s = .string ⟨(S ++ G).toArray⟩) (fun _ i => 1 - (intOf i).toNat)
          case atStart => exact ⟨0, [], by omega, rfl, rfl, rfl, by rw [List.append_nil]⟩
          case round =>
            obtain ⟨j, G, hj, rfl, HGL, HGB, rfl⟩ := hrel
            have hsz : (⟨(S ++ G).toArray⟩ : ByteArray).size ≤ 26 * k + 5 := by rw [str_size, List.length_append, HGL.out]; omega
            by_cases hjl : j < 1
            · have hq : (k + j) % 4 = 0 ∨ (k + j) % 4 = 1 ∨ (k + j) % 4 = 2 ∨ (k + j) % 4 = 3 := by omega
              rcases hq with hq | hq | hq | hq
              · have hq' : ((k : Int) + (j : Int)) % 4 = 0 := by omega
                have HST : Hid ((⟨(S ++ G).toArray⟩ : ByteArray) ++ ⟨#[Lx.bl 0]⟩ = ⟨(S ++ (G ++ [Lx.bl 0])).toArray⟩) := by have := str_app (S ++ G) [Lx.bl 0]; rw [List.append_assoc] at this; exact this
                have HB2 : Hid ((G ++ [Lx.bl 0]).all Lx.blk = true) := by show _ = _; rw [Lx.all_snoc, HGB.out, Lx.bl_blk 0 (by omega)]; rfl
                generalize (⟨(S ++ G).toArray⟩ : ByteArray) = T at *
                clear hq
                go_wp2_with fail
                go_round
                case rel => exact ⟨j + 1, G ++ [Lx.bl 0], by omega, by go_num, by show _ = _; rw [List.length_append, HGL.out]; rfl, HB2, by rw [← HST.out]⟩
                case measure => simp [intOf]; omega
              · have hq' : ((k : Int) + (j : Int)) % 4 = 1 := by omega
                have HST : Hid ((⟨(S ++ G).toArray⟩ : ByteArray) ++ ⟨#[Lx.bl 1]⟩ = ⟨(S ++ (G ++ [Lx.bl 1])).toArray⟩) := by have := str_app (S ++ G) [Lx.bl 1]; rw [List.append_assoc] at this; exact this
                have HB2 : Hid ((G ++ [Lx.bl 1]).all Lx.blk = true) := by show _ = _; rw [Lx.all_snoc, HGB.out, Lx.bl_blk 1 (by omega)]; rfl
                generalize (⟨(S ++ G).toArray⟩ : ByteArray) = T at *
                clear hq
                go_wp2_with fail
                go_round
                case rel => exact ⟨j + 1, G ++ [Lx.bl 1], by omega, by go_num, by show _ = _; rw [List.length_append, HGL.out]; rfl, HB2, by rw [← HST.out]⟩
                case measure => simp [intOf]; omega
              · have hq' : ((k : Int) + (j : Int)) % 4 = 2 := by omega
                have HST : Hid ((⟨(S ++ G).toArray⟩ : ByteArray) ++ ⟨#[Lx.bl 2]⟩ = ⟨(S ++ (G ++ [Lx.bl 2])).toArray⟩) := by have := str_app (S ++ G) [Lx.bl 2]; rw [List.append_assoc] at this; exact this
                have HB2 : Hid ((G ++ [Lx.bl 2]).all Lx.blk = true) := by show _ = _; rw [Lx.all_snoc, HGB.out, Lx.bl_blk 2 (by omega)]; rfl
                generalize (⟨(S ++ G).toArray⟩ : ByteArray) = T at *
                clear hq
                go_wp2_with fail
                go_round
                case rel => exact ⟨j + 1, G ++ [Lx.bl 2], by omega, by go_num, by show _ = _; rw [List.length_append, HGL.out]; rfl, HB2, by rw [← HST.out]⟩
                case measure => simp [intOf]; omega
              · have hq' : ((k : Int) + (j : Int)) % 4 = 3 := by omega
                have HST : Hid ((⟨(S ++ G).toArray⟩ : ByteArray) ++ ⟨#[Lx.bl 3]⟩ = ⟨(S ++ (G ++ [Lx.bl 3])).toArray⟩) := by have := str_app (S ++ G) [Lx.bl 3]; rw [List.append_assoc] at this; exact this
                have HB2 : Hid ((G ++ [Lx.bl 3]).all Lx.blk = true) := by show _ = _; rw [Lx.all_snoc, HGB.out, Lx.bl_blk 3 (by omega)]; rfl
                generalize (⟨(S ++ G).toArray⟩ : ByteArray) = T at *
                clear hq
                go_wp2_with fail
                go_round
                case rel => exact ⟨j + 1, G ++ [Lx.bl 3], by omega, by go_num, by show _ = _; rw [List.length_append, HGL.out]; rfl, HB2, by rw [← HST.out]⟩
                case measure => simp [intOf]; omega
            · have HST : Hid ((⟨(S ++ G).toArray⟩ : ByteArray) ++ ⟨l.toArray⟩ = ⟨(S ++ (G ++ l)).toArray⟩) := by have := str_app (S ++ G) l; rw [List.append_assoc] at this; exact this
              have HTX2 : Hid (Lx.TextOf (xs.take (k + 1)) (S ++ (G ++ l))) := by
                show Lx.TextOf _ _
                rw [HTK.out]
                exact Lx.textOf_snoc _ S G l t HTX.out HGB.out (fun e => by have := HGL.out; rw [e] at this; simp at this; omega) HW.out
              have hlen2 : (S ++ (G ++ l)).length ≤ 26 * (k + 1) := by simp only [List.length_append, HGL.out]; omega
              have hsl : (⟨l.toArray⟩ : ByteArray).size ≤ 21 := by rw [str_size]; omega
              generalize (⟨(S ++ G).toArray⟩ : ByteArray) = T at *
              generalize (⟨l.toArray⟩ : ByteArray) = L at *
              have hadd := fun W => run_string_add_sum (P := Tryd.prog) W T L (by omega)
              clear hsz hsl
              go_wp2_with fail
              go_roundw
              case rel => exact ⟨k + 1, S ++ (G ++ l), by omega, by go_num, by rw [← HST.out], hlen2, hB01, HTX2⟩
              case measure => simp [intOf]; omega
    · have hkx : xs.take k = xs := List.take_of_length_le (by omega)
      have hS2 : (S ++ [10]).length ≤ 6000 := by simp; omega
      obtain ⟨l, hl, hm⟩ := Lx.scanL_text xs S [10] (by rw [← hkx]; exact HTX.out) (by decide) hS2
      have HM : Hid (l.map Lx.bare = xs.map Lx.bareA) := hm
      have hll := bare_len hm
      have hdl : ((⟨S.toArray⟩ : ByteArray) ++ ⟨#[10]⟩).data.toList = S ++ [10] := by rw [ByteArray.data_append]; simp
      have hdz : ((⟨S.toArray⟩ : ByteArray) ++ ⟨#[10]⟩).size = (S ++ [10]).length := by rw [← hdl, Lx.toList_len]
      have hadd := fun W => run_string_add_sum (P := Tryd.prog) W (⟨S.toArray⟩ : ByteArray) ⟨#[10]⟩ (by rw [str_size]; show S.length + 1 ≤ _; simp at hS2; omega)
      have hBw : Below w.heap.size w wr := hB0.trans (hbel.mono (by omega))
      clear hm HTX hkx
      generalize (⟨S.toArray⟩ : ByteArray) ++ ⟨#[10]⟩ = T at *
      have hcv := fun W : World => Lib.run_convert_string_bytes (P := Tryd.prog) W 9 22 5 T (by kernel_rfl : Tryd.prog.underlying 9 = some .string) (by kernel_rfl) (by kernel_rfl)
      have hsc := Scan_any T.data.toList wr.heap.size 0 (grownCap wr T.size 0 5) (Lib.bytesWorld wr 5 T) (by rw [hdl]; exact hS2) (by rw [Lx.toList_len]; exact grownCap_ge _ _ _ _) (by rw [Lib.bytesWorld_size]; omega)
        (fun k hk => by rw [Nat.zero_add, Lib.bytesWorld_cell _ _ _ _ (by rw [← Lx.toList_len]; exact hk)])
      rw [hdl, hl, ← hdz] at hsc
      clear hl hdl hdz hS2
      go_wp2_with fail
      refine hsc.mono ?_
      clear hsc hcv hadd
      rintro e w2 ⟨v2, rfl, hown2, hB2⟩
      have hown2' : w2.ownsRow (Lib.bytesWorld wr 5 T).heap.size 25 4 v2 l.length (toksCells l) := hown2
      clear hown2
      obtain ⟨g2, cv2, rfl, hg2, hg2', hnc2, hcm2, _⟩ := own_some hown2' (by omega)
      have hBr : Below wr.heap.size wr w2 := (below_bytes wr 5 T).trans (hB2.mono (by rw [Lib.bytesWorld_size]; omega))
      have hBB : Below w.heap.size w w2 := hBw.trans (hBr.mono hBw.size)
      have hs1 := hBB.size
      have HX2 : Hid (ToksAt w2 b1 o1 xs) := HX.out.on hBB hb1
      have HO2 : Hid (w2.ownsRow (Lib.bytesWorld wr 5 T).heap.size 25 4 (.slice (some ⟨g2, 0, none⟩) l.length cv2) l.length (toksCells l)) := hown2'
      clear hown2' hB2 hBr hbel hg2
      have hne : ((l.length : Int) != (xs.length : Int)) = false := by rw [hll]; simp
      go_wp2_with fail
      go_loopw [15] (fun i wr2 => ∃ k : Nat, k ≤ xs.length ∧ i = .int .i64 k ∧ Below w2.heap.size w2 wr2) (fun i _ => xs.length - (intOf i).toNat)
      case atStart => exact ⟨0, Nat.zero_le _, rfl, Below.refl _ _⟩
      case round =>
        obtain ⟨k, hk, rfl, hbel⟩ := hrel
        by_cases hlt : k < xs.length
        · obtain ⟨q, s, n, d1, d2, d3, d4, d5, d6⟩ := both_cells HM.out HO2.out hg2' (by omega) HX2.out hbel k hlt
          have hlt' : (k : Int) < (xs.length : Int) := by omega
          have hlt2 : (k : Int) < (l.length : Int) := by omega
          go_wp2_with fail
          go_quiet (fail)
          go_wp2_with fail
          go_roundw
          case rel => exact ⟨k + 1, by omega, by go_num, by first | exact hbel | exact below_drewN hbel _⟩
          case measure => simp [intOf]; omega
        · go_wp2_with fail
          refine (wakes_any _).mono ?_
          rintro e w3 ⟨rfl, hb3⟩
          go_wp2_with fail
          go_ret
          have h9 := hBB.trans (hbel.mono hs1)
          exact ⟨rfl, h9.trans (hb3.mono h9.size)⟩

theorem scan_end : Lx.scanL [10] = ([], 0, 0) := by kernel_rfl

set_option maxHeartbeats 2000000 in
set_option maxRecDepth 100000 in
theorem blanks_empty (a a2 : Option Addr) (c n2 c2 : Nat) (hn2 : n2 ≤ 100) (w : World) :
    Calls Tryd.prog 5 #[.slice a 0 c, .slice a2 n2 c2] w fun e w' => e = .returned (.bool true) ∧ Below w.heap.size w w' := by
  go_enter Tryd.func5, Tryd.ntmps5
  go_wp2_with fail
  refine wp_loop_rounds 1 ?_
  rw [rounds_succ]
  go_wp2_with fail
  obtain ⟨W, hW⟩ : ∃ W, W = w.alloc (.cells #[.string ⟨#[32]⟩, .string ⟨#[9]⟩, .string ⟨#[10]⟩, .string ⟨#[13]⟩] 9) := ⟨_, rfl⟩
  have hB0 : Below w.heap.size w W := by rw [hW]; exact (Below.refl _ _).alloc (Nat.le_refl _) _
  obtain ⟨T, hT⟩ : ∃ T : ByteArray, T = ⟨#[]⟩ ++ ⟨#[10]⟩ := ⟨_, rfl⟩
  have hTl : T.data.toList = [10] := by rw [hT]; rfl
  rw [← hW, ← hT]
  clear hW hT
  have hcv := Lib.run_convert_string_bytes (P := Tryd.prog) W 9 22 5 T (by kernel_rfl : Tryd.prog.underlying 9 = some .string) (by kernel_rfl) (by kernel_rfl)
  have hsc := Scan_any T.data.toList W.heap.size 0 (grownCap W T.size 0 5) (Lib.bytesWorld W 5 T) (by rw [hTl]; decide) (by rw [Lx.toList_len]; exact grownCap_ge _ _ _ _) (by rw [Lib.bytesWorld_size]; omega)
    (fun k hk => by rw [Nat.zero_add, Lib.bytesWorld_cell _ _ _ _ (by rw [← Lx.toList_len]; exact hk)])
  rw [Lx.toList_len, hTl, scan_end] at hsc
  clear hTl
  go_wp2_with fail
  refine hsc.mono ?_
  clear hsc hcv
  rintro e w2 ⟨v2, rfl, hown2, hB2⟩
  obtain ⟨av2, cv2, rfl⟩ := own_none hown2
  clear hown2
  have hBB : Below w.heap.size w w2 := hB0.trans (((below_bytes W 5 T).trans (hB2.mono (by rw [Lib.bytesWorld_size]; omega))).mono hB0.size)
  go_wp2_with fail
  refine wp_loop_rounds 1 ?_
  rw [rounds_succ]
  go_wp2_with fail
  refine (wakes_any _).mono ?_
  rintro e w3 ⟨rfl, hb3⟩
  go_wp2_with fail
  go_ret
  exact ⟨rfl, hBB.trans (hb3.mono hBB.size)⟩

end Go.Proofs.YtiglcjcellhggaaDoor

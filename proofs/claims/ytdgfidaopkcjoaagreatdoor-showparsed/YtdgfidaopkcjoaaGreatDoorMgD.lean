/- Rows of bytes that came in: what Scan, Program answer of them. What Bytes answers of two rows that are alike. Programs that are read, as programs of any numbers, and back. A program that can be shown, its text, and the text read again: the calls. -/
import Derived.Test.YtdgfidaopkcjoaaGreatDoorKeepB
import Derived.Test.YtdgfidaopkcjoaaGreatDoorShowJ
import Derived.Test.YtdgfidaopkcjoaaGreatDoorMgA
import Derived.OpenShut
import Derived.BigQuiet
import Derived.Deep.QuietTactic
import Derived.WalkSmall
import Derived.Test.YtdgfidaopkcjoaaGreatDoorSameA
import Derived.Test.YtdgfidaopkcjoaaGreatDoorMemX
import Derived.Test.YtdgfidaopkcjoaaGreatDoorMgE
import Derived.Test.YtdgfidaopkcjoaaGreatDoorHeavyX
namespace Go.Proofs.YtdgfidaopkcjoaaGreatDoor
open Go.RowKit
set_option linter.unusedVariables false
set_option linter.unusedSimpArgs false

def RowB (w : World) (a : Option Addr) (n c : Nat) (bs : List UInt8) : Prop :=
  (a = none ∧ n = 0 ∧ c = 0 ∧ bs = []) ∨
  ∃ x, a = some x ∧ n ≤ c ∧ bs.length = n ∧ (n = 0 ∨ ∃ b off, x = ⟨b, off, none⟩ ∧ b < w.heap.size ∧ ∀ k, k < bs.length → w.cell? ⟨b, off + k, none⟩ = some (.int .u8 ((bs.getD k 0).toNat : Int)))
theorem RowB.len {w : World} {a : Option Addr} {n c : Nat} {bs : List UInt8} (h : RowB w a n c bs) : bs.length = n := by
  rcases h with ⟨_, rfl, _, rfl⟩ | ⟨x, _, _, h, _⟩
  · rfl
  · exact h
theorem RowB.on {w w' : World} {a : Option Addr} {n c : Nat} {bs : List UInt8} (h : RowB w a n c bs) (hb : Below w.heap.size w w') : RowB w' a n c bs := by
  rcases h with h | ⟨x, rfl, h1, h2, h3⟩
  · exact .inl h
  · refine .inr ⟨x, rfl, h1, h2, ?_⟩
    rcases h3 with h3 | ⟨b, off, rfl, hlt, hc⟩
    · exact .inl h3
    · exact .inr ⟨b, off, rfl, Nat.lt_of_lt_of_le hlt hb.size, fun k hk => (hb.cell (by exact hlt)).trans (hc k hk)⟩
theorem own_rowB {w : World} {base : Nat} {v : Value} {bs : List UInt8} (h : w.ownsRow base 5 1 v bs.length (bs.map Sh.byV)) : ∃ a c, v = .slice a bs.length c ∧ RowB w a bs.length c bs := by
  by_cases hl : bs = []
  · subst hl
    obtain ⟨a, c, rfl⟩ := Sh.own_shape h
    refine ⟨a, c, rfl, ?_⟩
    rcases h.2 with ⟨h1, _⟩ | ⟨g, cap, cur, h1, _⟩
    · injection h1 with h1 h2 h3
      subst h1; subst h3
      exact .inl ⟨rfl, rfl, rfl, rfl⟩
    · injection h1 with h1 h2 h3
      subst h1
      exact .inr ⟨_, rfl, by simp, rfl, .inl rfl⟩
  · obtain ⟨g, cap, rfl, _, hg, hnc, _, hc⟩ := own_some h (List.length_pos_iff.2 hl)
    refine ⟨_, cap, rfl, .inr ⟨_, rfl, hnc, rfl, .inr ⟨g, 0, rfl, hg, fun k hk => ?_⟩⟩⟩
    rw [Nat.zero_add]
    exact hc k _ (by simp [List.getD, hk, Sh.byV])
theorem scans_row {w : World} {a : Option Addr} {n c : Nat} {bs : List UInt8} (h : RowB w a n c bs) (hm : n ≤ maxLen) : Scans w (.slice a n c) bs := by
  have hl := h.len
  by_cases h0 : n = 0
  · subst h0
    have hb : bs = [] := List.eq_nil_of_length_eq_zero hl
    subst hb
    intro w' hb
    refine (Scan_empty a c w').mono ?_
    rintro e w'' ⟨rfl, rfl⟩
    exact ⟨_, rfl, World.ownsRow_nil _ _ _ _, Below.refl _ _⟩
  by_cases h6 : 6000 < n
  · intro w' hb
    have e : Lx.scanL bs = ([], 0, 2) := by rw [Lx.scanL, if_pos (by omega)]
    rw [e]
    refine (Scan_long a n c h6 hm w').mono ?_
    rintro e w'' ⟨rfl, rfl⟩
    exact ⟨_, rfl, World.ownsRow_nil _ _ _ _, Below.refl _ _⟩
  rcases h with ⟨_, h, _⟩ | ⟨x, rfl, h1, h2, h3 | ⟨b, off, rfl, hlt, hc⟩⟩
  · exact absurd h h0
  · exact absurd h3 h0
  · subst h2
    exact scans_of w bs b off c (by omega) h1 hlt hc
theorem Scans.on {w w' : World} {v : Value} {bs : List UInt8} (h : Scans w v bs) (hb : Below w.heap.size w w') : Scans w' v bs := fun w'' hb2 => h w'' (hb.trans (hb2.mono hb.size))
/-- Program over bytes that came in. -/
theorem Program_row {w : World} {a : Option Addr} {n c : Nat} {bs : List UInt8} (h : RowB w a n c bs) (hm : n ≤ maxLen) (ht : TabS w) :
    Calls Tryz.prog 8 #[.slice a n c] w fun e w' => ∃ v, e = .returned (.tuple #[.agg #[v], .int .i64 ((Pp.program bs).2.1 : Int), .int .i64 (Pp.program bs).2.2]) ∧ ProgP w' v (Pp.program bs).1 ∧ Below w.heap.size w w' :=
  (Program_any (scans_row h hm) h.len.symm hm ht).mono fun e w' ⟨v, h1, h2, h3⟩ => ⟨v, h1, progIs_P h2, h3⟩
theorem row_of (w : World) (a : Option Addr) (n c : Nat) (zs : List Int) (hz : (a = none ∧ n = 0 ∧ c = 0 ∧ zs = []) ∨
    ∃ x, a = some x ∧ n ≤ c ∧ c ≤ maxLen ∧ zs.length = c ∧ (∀ i, i < zs.length → w.cell? (x.add i) = some (.int .u8 (zs.getD i 0))) ∧ ∀ n ∈ zs, (Lit.int .u8 n).wf = true) : n ≤ maxLen ∧ ∃ bs, RowB w a n c bs := by
  rcases hz with ⟨rfl, rfl, rfl, _⟩ | ⟨x, rfl, h1, h2, h3, h4, h5⟩
  · exact ⟨by unfold maxLen; omega, [], .inl ⟨rfl, rfl, rfl, rfl⟩⟩
  · refine ⟨by omega, (zs.take n).map fun z => UInt8.ofNat z.toNat, .inr ⟨x, rfl, h1, by simp; omega, ?_⟩⟩
    rcases Nat.eq_zero_or_pos n with h0 | h0
    · exact .inl h0
    · obtain ⟨b, off, rfl, hc⟩ := ints_at h4 (by omega)
      refine .inr ⟨b, off, rfl, World.block_lt_of_cell? w _ (hc 0 (by omega)), fun k hk => ?_⟩
      have hk' : k < zs.length := by simp at hk; omega
      have hkn : k < n := by simp at hk; omega
      rw [hc k hk']
      have hm : zs[k] ∈ zs := List.getElem_mem hk'
      have hb : 0 ≤ zs[k] ∧ zs[k] ≤ 255 := by simpa [Lit.wf, IntKind.min, IntKind.max, IntKind.signed, IntKind.bits] using h5 _ hm
      have hu : ((UInt8.ofNat zs[k].toNat).toNat : Int) = zs[k] := by
        rw [UInt8.toNat_ofNat_of_lt' (by rw [show UInt8.size = 256 from rfl]; omega)]; omega
      have e1 : zs.getD k 0 = zs[k] := by simp [List.getD, hk']
      have e2 : ((zs.take n).map fun z => UInt8.ofNat z.toNat).getD k 0 = UInt8.ofNat zs[k].toNat := by
        simp [List.getD, hk', hkn]
      rw [e1, e2, hu]
namespace Pp
theorem scan_VW (bs : List UInt8) : VW ((Lx.scanL bs).1.map wd) := by
  intro w hw hk
  obtain ⟨t, ht, rfl⟩ := List.mem_map.1 hw
  rcases Lx.scanL_valid bs t ht with ⟨h1, h2, h3⟩ | ⟨h1, h2, h3⟩ | ⟨h1, h2, h3, h4⟩
  · exact h2
  · have h4 : t.kind = 1 := hk
    rw [h1] at h4; cases h4
  · have h5 : t.kind = 1 := hk
    rw [h1] at h5; cases h5
theorem program_ok (bs : List UInt8) : okProg (program bs).1 := by
  unfold program
  simp only
  split
  · rename_i h
    exact ens_progP _ _ (scan_VW bs) h
  · exact ⟨by simp, by simp⟩
end Pp
theorem short_of_ok {cs : List Pp.Cls} (h : Pp.okProg cs) : Short cs := by
  refine ⟨by have := h.1; omega, fun c hc => ?_⟩
  obtain ⟨_, _, ⟨h3, _⟩, ⟨h5, _⟩, h7, h8⟩ := h.2 c hc
  refine ⟨by omega, by omega, by omega, fun m hm => ?_⟩
  obtain ⟨_, ⟨g2, _⟩, _, g5⟩ := h8 m hm
  rcases g5 with ⟨_, _, e1, e2⟩ | ⟨_, _, ⟨e1, _⟩, e2, _⟩
  · rw [e1, e2]; simp; omega
  · omega

end Go.Proofs.YtdgfidaopkcjoaaGreatDoor

namespace Go.Proofs.YtdgfidaopkcjoaaGreatDoor
open Go.RowKit
set_option linter.unusedVariables false
set_option linter.unusedSimpArgs false

def RowAt (w : World) (a : Option Addr) (l : List UInt8) : Prop := l = [] ∨ ∃ b off, a = some ⟨b, off, none⟩ ∧ b < w.heap.size ∧ ∀ k, k < l.length → w.cell? ⟨b, off + k, none⟩ = some (.int .u8 ((l.getD k 0).toNat : Int))
theorem own_rowAt {w : World} {base : Nat} {a : Option Addr} {cap : Nat} {l : List UInt8} (h : w.ownsRow base 5 1 (.slice a l.length cap) l.length (l.map Sh.byV)) : RowAt w a l := by
  rcases h.2 with ⟨e0, e⟩ | ⟨g, cap, cur, e0, hb, hg, r1, r2, r3, r4⟩
  · exact .inl (List.length_eq_zero_iff.1 e)
  · injection e0 with e1 e2 e3
    subst e1 e3
    refine .inr ⟨g, 0, rfl, Sh.lt_of_blk hg, fun i hi => ?_⟩
    rw [Nat.zero_add, cell_boxS hg]
    have h5 := congrArg (fun x : List Value => x[i]?) r4
    simp only [List.getElem?_map, List.getElem?_take] at h5
    rw [if_pos (by omega)] at h5
    rw [List.getElem?_eq_getElem hi] at h5
    simp only [Option.map_some, Array.getElem?_toList] at h5
    rw [h5]
    simp [Sh.byV, List.getD, hi]
theorem RowAt.on {w w' : World} {a : Option Addr} {l : List UInt8} (h : RowAt w a l) (hb : Below w.heap.size w w') : RowAt w' a l := by
  rcases h with h | ⟨b, off, rfl, hlt, hc⟩
  · exact .inl h
  · exact .inr ⟨b, off, rfl, Nat.lt_of_lt_of_le hlt hb.size, fun k hk => (hb.cell (by exact hlt)).trans (hc k hk)⟩

set_option maxHeartbeats 2000000 in
theorem Bytes_same (l : List UInt8) (a1 a2 : Option Addr) (c1 c2 : Nat) (w : World) (hn : l.length ≤ 100000) (h1 : RowAt w a1 l) (h2 : RowAt w a2 l) :
    Calls Tryz.prog 10 #[.slice a1 l.length c1, .slice a2 l.length c2] w fun e w' => e = .returned (.bool true) ∧ Below w.heap.size w w' := by
  rcases h1 with rfl | ⟨b1, o1, rfl, hb1, hc1⟩
  · go_enter Tryz.func10, Tryz.ntmps10
    go_wp2
    refine wp_loop_rounds 1 ?_
    rw [rounds_succ]
    go_wp2
    go_ret
    exact ⟨rfl, Below.refl _ _⟩
  rcases h2 with rfl | ⟨b2, o2, rfl, hb2, hc2⟩
  · go_enter Tryz.func10, Tryz.ntmps10
    go_wp2
    refine wp_loop_rounds 1 ?_
    rw [rounds_succ]
    go_wp2
    go_ret
    exact ⟨rfl, Below.refl _ _⟩
  have H1 : Hid (∀ k, k < l.length → w.cell? ⟨b1, o1 + k, none⟩ = some (.int .u8 ((l.getD k 0).toNat : Int))) := hc1
  have H2 : Hid (∀ k, k < l.length → w.cell? ⟨b2, o2 + k, none⟩ = some (.int .u8 ((l.getD k 0).toNat : Int))) := hc2
  clear hc1 hc2
  obtain ⟨len, hlen⟩ : ∃ len, len = l.length := ⟨_, rfl⟩
  have HL : Hid (len = l.length) := hlen
  rw [← hlen] at hn ⊢
  clear hlen
  go_enter Tryz.func10, Tryz.ntmps10
  go_wp2
  go_loopw [5] (fun i wr => ∃ k : Nat, k ≤ len ∧ i = .int .i64 k ∧ Below w.heap.size w wr) (fun i _ => len - (intOf i).toNat)
  case atStart => exact ⟨0, Nat.zero_le _, rfl, Below.refl _ _⟩
  case round =>
    obtain ⟨k, hk, rfl, hbel⟩ := hrel
    by_cases hlt : k < len
    · have hd1 := (hbel.cell (p := ⟨b1, o1 + k, none⟩) (by exact hb1)).trans (H1.out k (by rw [← HL.out]; exact hlt))
      have hd2 := (hbel.cell (p := ⟨b2, o2 + k, none⟩) (by exact hb2)).trans (H2.out k (by rw [← HL.out]; exact hlt))
      generalize (l.getD k 0).toNat = d at *
      have hlt' : (k : Int) < (len : Int) := by omega
      go_wp2_with fail
      go_quiet (fail)
      go_wp2_with fail
      go_roundw
      case rel => exact ⟨k + 1, by omega, by go_num, by first | exact hbel | exact below_drewN hbel _⟩
      case measure => simp [intOf]; omega
    · go_wp2_with fail
      go_ret
      exact ⟨rfl, hbel⟩

end Go.Proofs.YtdgfidaopkcjoaaGreatDoor

namespace Go.Proofs.YtdgfidaopkcjoaaGreatDoor
open Go.RowKit
set_option linter.unusedVariables false
set_option linter.unusedSimpArgs false

/-- A program that is read is not too great, and one of any numbers. -/
theorem light_of {cs : List Pp.Cls} (h : Pp.okProg cs) : Pp.Light (cs.map Pp.clsX) := by
  have nl : ∀ s, Pp.okN s → s.length ≤ 60 := fun s hs => by have := Lx.nameL_len _ hs.1; omega
  have tl : ∀ t, Pp.okTy t → t.name.length ≤ 60 := fun t ht => by
    rcases ht with ⟨_, h2⟩ | ⟨_, h2⟩
    · rw [h2]; simp
    · exact nl _ h2
  refine ⟨by rw [List.length_map]; have := h.1; omega, fun c hc => ?_⟩
  obtain ⟨c', hc', rfl⟩ := List.mem_map.1 hc
  obtain ⟨h1, h2, ⟨h3, h4⟩, ⟨h5, h6⟩, h7, h8⟩ := h.2 c' hc'
  refine ⟨⟨by show c'.fields.length ≤ 14; omega, by show (c'.methods.map Pp.mthX).length ≤ 14; rw [List.length_map]; omega, by show c'.ifaces.length ≤ 10; omega, nl _ h1, ?_⟩, fun f hf => ⟨nl _ (h6 f hf).1, tl _ (h6 f hf).2⟩, fun s hs => nl _ (h4 s hs), fun m hm => ?_⟩
  · show c'.super.length ≤ 60
    rcases h2 with h2 | ⟨_, h2⟩
    · rw [h2]; simp
    · exact nl _ h2
  · obtain ⟨m', hm', rfl⟩ := List.mem_map.1 hm
    obtain ⟨g1, ⟨g2, g3⟩, g4, g5⟩ := h8 m' hm'
    have hcode : m'.code.length ≤ 48 ∧ m'.catches.length ≤ 4 ∧ (∀ i ∈ m'.code, Pp.okIns i) ∧ ∀ c ∈ m'.catches, Pp.okCtc c := by
      rcases g5 with ⟨_, _, e1, e2⟩ | ⟨_, _, ⟨e1, e2⟩, e3, e4⟩
      · rw [e1, e2]; simp
      · exact ⟨e1, e3, e2, e4⟩
    refine ⟨⟨nl _ g1, by show m'.params.length ≤ 10; omega, by show (m'.code.map Pp.insX).length ≤ 60; rw [List.length_map]; omega, by show m'.catches.length ≤ 10; omega, tl _ g4⟩, fun x hx => ?_, fun t ht => tl _ (g3 t ht), fun k hk => nl _ (hcode.2.2.2 k hk).1⟩
    obtain ⟨i, hi, rfl⟩ := List.mem_map.1 hx
    obtain ⟨_, i2⟩ := hcode.2.2.1 i hi
    show i.a.length ≤ 60 ∧ i.b.length ≤ 60
    rcases i2 with ⟨_, _, _, e1, e2⟩ | ⟨_, _, _, e1, e2⟩ | ⟨_, _, _, e1, e2⟩ | ⟨_, _, e1, e2⟩ | ⟨_, _, e1, e2⟩ | ⟨_, _, e1, e2⟩
    · rw [e1, e2]; simp
    · rw [e1, e2]; simp
    · rw [e1, e2]; simp
    · rw [e2]; exact ⟨nl _ e1, by simp⟩
    · exact ⟨nl _ e1, nl _ e2⟩
    · rw [e1, e2]; simp

theorem row_conv {α β : Type} {w : World} {sz : Nat} {P : α → List Value → Prop} {Q : β → List Value → Prop} (f : α → β) {v : Value} {l : List α} (h : RowP w sz P v l) (hp : ∀ x ∈ l, ∀ ys, P x ys → Q (f x) ys) : RowP w sz Q v (l.map f) := by
  obtain ⟨a, c, rfl, hc, h⟩ := h
  refine ⟨a, c, by rw [List.length_map], by rw [List.length_map]; exact hc, ?_⟩
  rcases h with rfl | ⟨b, o, rfl, hlt, hx⟩
  · exact .inl rfl
  · refine .inr ⟨b, o, rfl, hlt, fun k y hk => ?_⟩
    rw [List.getElem?_map, Option.map_eq_some_iff] at hk
    obtain ⟨x, hx', rfl⟩ := hk
    obtain ⟨ys, h1, h2⟩ := hx k x hx'
    exact ⟨ys, hp x (List.mem_of_getElem? hx') ys h1, h2⟩
theorem row_same {α : Type} {w : World} {sz : Nat} {P Q : α → List Value → Prop} {v : Value} {l : List α} (h : RowP w sz P v l) (hp : ∀ x ∈ l, ∀ ys, P x ys → Q x ys) : RowP w sz Q v l := by
  have := row_conv (fun x => x) h hp
  rwa [List.map_id'] at this
theorem len60 (n : Nat) (h : n ≤ 60) : n ≤ maxLen := by unfold maxLen; omega
theorem mthX_of {w : World} {m : Pp.Mth} {ys : List Value} (hl : Pp.LtM (Pp.mthX m)) (h : MthP w m ys) : MthX w (Pp.mthX m) ys := by
  obtain ⟨vp, vc, vk, rfl, h1, h2, h3⟩ := h
  obtain ⟨⟨l1, l2, l3, l4, l5⟩, l6, l7, l8⟩ := hl
  refine ⟨vp, vc, vk, rfl, row_same h1 fun t ht ys e => ⟨e, len60 _ (l7 t ht)⟩, ?_, row_same h3 fun k hk ys e => ⟨e, len60 _ (l8 k hk)⟩, len60 _ l1, len60 _ l5, len60 _ (by omega), len60 _ l3, len60 _ (by omega)⟩
  exact row_conv Pp.insX h2 fun i hi ys e => ⟨e, len60 _ (l6 _ (List.mem_map_of_mem hi)).1, len60 _ (l6 _ (List.mem_map_of_mem hi)).2⟩
theorem clsX_of {w : World} {c : Pp.Cls} {ys : List Value} (hl : Pp.LtC (Pp.clsX c)) (h : ClsP w c ys) : ClsX w (Pp.clsX c) ys := by
  obtain ⟨vi, vf, vm, rfl, h1, h2, h3⟩ := h
  obtain ⟨⟨l1, l2, l3, l4, l5⟩, l6, l7, l8⟩ := hl
  refine ⟨vi, vf, vm, rfl, row_same h1 fun s hs ys e => ⟨e, len60 _ (l7 s hs)⟩, row_same h2 fun f hf ys e => ⟨e, len60 _ (l6 f hf).1, len60 _ (l6 f hf).2⟩, ?_, len60 _ l4, len60 _ l5, len60 _ (by omega), len60 _ (by omega), len60 _ (by omega)⟩
  exact row_conv Pp.mthX h3 fun m hm ys e => mthX_of (l8 _ (List.mem_map_of_mem hm)) e
theorem progX_of {w : World} {v : Value} {cs : List Pp.Cls} (hk : Pp.okProg cs) (h : ProgP w v cs) : ProgX w v (cs.map Pp.clsX) := by
  have hl := light_of hk
  exact ⟨row_conv Pp.clsX h fun c hc ys e => clsX_of (hl.2 _ (List.mem_map_of_mem hc)) e, len60 _ (by have := hl.1; omega)⟩
theorem mthP_of {w : World} {m : Pp.XMth} {ys : List Value} (hp : ∀ i ∈ m.code, 0 ≤ i.op) (h : MthX w m ys) : MthP w m.toP ys := by
  obtain ⟨vp, vc, vk, rfl, h1, h2, h3, _⟩ := h
  refine ⟨vp, vc, vk, rfl, row_same h1 fun t ht ys e => e.1, ?_, row_same h3 fun k hk ys e => e.1⟩
  refine row_conv Pp.XIns.toP h2 fun i hi ys e => ?_
  rw [e.1]
  show insL i = [.int .i64 ((i.op.toNat : Nat) : Int), .int .i64 i.n, .string ⟨i.a.toArray⟩, .string ⟨i.b.toArray⟩]
  rw [Int.toNat_of_nonneg (hp i hi)]
  rfl
theorem clsP_of {w : World} {c : Pp.XCls} {ys : List Value} (hp : Pp.posX c) (h : ClsX w c ys) : ClsP w c.toP ys := by
  obtain ⟨vi, vf, vm, rfl, h1, h2, h3, _⟩ := h
  exact ⟨vi, vf, vm, rfl, row_same h1 fun s hs ys e => e.1, row_same h2 fun f hf ys e => e.1, row_conv Pp.XMth.toP h3 fun m hm ys e => mthP_of (hp m hm) e⟩
theorem progP_of {w : World} {v : Value} {cs : List Pp.XCls} (hp : ∀ c ∈ cs, Pp.posX c) (h : RowX w 6 (ClsX w) v cs) : ProgP w v (cs.map Pp.XCls.toP) := row_conv Pp.XCls.toP h fun c hc ys e => clsP_of (hp c hc) e
theorem pos_of (cs : List Pp.Cls) : ∀ c ∈ cs.map Pp.clsX, Pp.posX c := by
  intro c hc
  obtain ⟨c', _, rfl⟩ := List.mem_map.1 hc
  intro m hm i hi
  obtain ⟨m', _, rfl⟩ := List.mem_map.1 hm
  obtain ⟨i', _, rfl⟩ := List.mem_map.1 hi
  exact Int.natCast_nonneg _
theorem toP_all (cs : List Pp.Cls) : (cs.map Pp.clsX).map Pp.XCls.toP = cs := by
  rw [List.map_map]
  exact (List.map_congr_left (fun i _ => Pp.toP_cls i)).trans (List.map_id _)

end Go.Proofs.YtdgfidaopkcjoaaGreatDoor

namespace Go.Proofs.YtdgfidaopkcjoaaGreatDoor
open Go.RowKit
set_option linter.unusedVariables false
set_option linter.unusedSimpArgs false

def errT (cs : List Pp.XCls) : Int := if Pp.progB cs = true then (if (Pp.textX cs).length ≤ 6000 then 0 else 2) else 4
theorem errT_ok {cs : List Pp.XCls} (h : errT cs = 0) : Pp.progB cs = true ∧ (Pp.textX cs).length ≤ 6000 := by
  unfold errT at h
  split at h
  · split at h
    · exact ⟨by assumption, by assumption⟩
    · cases h
  · cases h
theorem errT_is {cs : List Pp.XCls} (h1 : Pp.progB cs = true) (h2 : (Pp.textX cs).length ≤ 6000) : errT cs = 0 := by unfold errT; rw [if_pos h1, if_pos h2]
theorem errT_long {cs : List Pp.XCls} (h1 : Pp.progB cs = true) (h2 : ¬ (Pp.textX cs).length ≤ 6000) : errT cs = 2 := by unfold errT; rw [if_pos h1, if_neg h2]
theorem Text_no {cs : List Pp.XCls} {v : Value} {B : Nat} {w : World} (ht : Sh.Tabs B w) (hB : B ≤ w.heap.size) (he : errT cs ≠ 0) (h : ProgX w v cs) :
    Calls Tryz.prog 6 #[.agg #[v]] w fun e w' => e = .returned (.tuple #[.slice none 0 0, .int .i64 (errT cs)]) ∧ Below w.heap.size w w' := by
  have hg := ht.hB
  refine (Text_any cs v w ht.ws ht.pw ⟨by omega, by omega, by omega⟩ h).mono ?_
  rintro e w' ⟨⟨rv, rfl, hr⟩, hb⟩
  have hn : ¬ (Pp.progB cs = true ∧ (Pp.textX cs).length ≤ 6000) := fun hx => he (errT_is hx.1 hx.2)
  rw [if_neg hn] at hr
  subst hr
  exact ⟨rfl, hb⟩
theorem Text_ok {cs : List Pp.XCls} {v : Value} {B : Nat} {w : World} (ht : Sh.Tabs B w) (hB : B ≤ w.heap.size) (he : errT cs = 0) (h : ProgX w v cs) :
    Calls Tryz.prog 6 #[.agg #[v]] w fun e w' => ∃ a c, e = .returned (.tuple #[.slice a (Pp.textX cs).length c, .int .i64 0]) ∧ RowB w' a (Pp.textX cs).length c (Pp.textX cs) ∧ RowAt w' a (Pp.textX cs) ∧ Below w.heap.size w w' := by
  have hg := ht.hB
  refine (Text_any cs v w ht.ws ht.pw ⟨by omega, by omega, by omega⟩ h).mono ?_
  rintro e w' ⟨⟨rv, rfl, hr⟩, hb⟩
  obtain ⟨h1, h2⟩ := errT_ok he
  rw [if_pos ⟨h1, h2⟩] at hr
  obtain ⟨a, c, rfl, hrow⟩ := own_rowB hr
  refine ⟨a, c, ?_, hrow, own_rowAt hr, hb⟩
  rw [if_pos h1, if_pos h2]
theorem Program_back {cs : List Pp.XCls} {a : Option Addr} {c : Nat} {w : World} (ht : TabS w) (he : errT cs = 0) (h : RowB w a (Pp.textX cs).length c (Pp.textX cs)) :
    Calls Tryz.prog 8 #[.slice a (Pp.textX cs).length c] w fun e w' => ∃ v, e = .returned (.tuple #[.agg #[v], .int .i64 0, .int .i64 0]) ∧ ProgP w' v (cs.map Pp.XCls.toP) ∧ Below w.heap.size w w' := by
  obtain ⟨h1, h2⟩ := errT_ok he
  refine (Program_row h (by unfold maxLen; omega) ht).mono ?_
  rw [Pp.text_back h1 h2]
  rintro e w' ⟨v, rfl, hp, hb⟩
  exact ⟨v, rfl, hp, hb⟩
/-- What is read again is shown as it was. -/
theorem again {cs : List Pp.XCls} (he : errT cs = 0) : errT ((cs.map Pp.XCls.toP).map Pp.clsX) = 0 ∧ Pp.textX ((cs.map Pp.XCls.toP).map Pp.clsX) = Pp.textX cs := by
  obtain ⟨h1, h2⟩ := errT_ok he
  have e : Pp.textX ((cs.map Pp.XCls.toP).map Pp.clsX) = Pp.textX cs := by unfold Pp.textX; rw [Pp.toP_prog]
  exact ⟨errT_is (Pp.progB_of ((Pp.progB_iff cs).1 h1).2) (by rw [e]; exact h2), e⟩
theorem shown_P {w : World} {v : Value} {cs : List Pp.XCls} (he : errT cs = 0) (h : ProgX w v cs) : ProgP w v (cs.map Pp.XCls.toP) ∧ Pp.okProg (cs.map Pp.XCls.toP) := by
  have h1 := (Pp.progB_iff cs).1 (errT_ok he).1
  exact ⟨progP_of h1.1 h.1, h1.2⟩

end Go.Proofs.YtdgfidaopkcjoaaGreatDoor

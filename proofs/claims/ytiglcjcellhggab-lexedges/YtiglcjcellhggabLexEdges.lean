/- LexEdges: the walk: as many bytes as may be are scanned, one more is not. -/
import Derived.Test.YtiglcjcellhggabWakes
import Derived.Test.YtiglcjcellhggabPlain5
import Derived.Test.YtiglcjcellhggabLexNames
namespace Go.Proofs.Ytiglcjcellhggab
open Go.RowKit
set_option linter.unusedVariables false
set_option linter.unusedSimpArgs false

theorem Try.info5 : (Try.prog.info? 5).map (fun i => (i.zero, i.size, i.bytes)) = some (some (.int .u8 0), 1, 1) := by kernel_rfl
def byteV (x : UInt8) : Value := .int .u8 (x.toNat : Int)
def lenOf : Value → Nat | .slice _ n _ => n | _ => 0
theorem own_shape {w : World} {base e size : Nat} {v : Value} {n : Nat} {xs : List Value} (h : w.ownsRow base e size v n xs) : ∃ a cap, v = .slice a n cap := by
  rcases h.2 with ⟨rfl, rfl⟩ | ⟨g, cap, cur, rfl, _⟩
  · exact ⟨none, 0, rfl⟩
  · exact ⟨_, cap, rfl⟩
theorem edge_range (n : Int) : ∃ m : Nat, 5999 ≤ m ∧ m ≤ 6001 ∧ wrap64 (5999 + wrap64 ((IntKind.u64.wrap n).tmod 3)) = (m : Int) := by
  have h0 : 0 ≤ IntKind.u64.wrap n := by
    simp only [IntKind.wrap, IntKind.bits, IntKind.signed]
    simp
    exact Int.emod_nonneg _ (by decide)
  generalize IntKind.u64.wrap n = u at h0
  have h1 : 0 ≤ u.tmod 3 := Int.tmod_nonneg _ h0
  have h2 : u.tmod 3 < 3 := Int.tmod_lt_of_pos _ (by omega)
  generalize u.tmod 3 = r at h1 h2
  refine ⟨(5999 + r).toNat, by omega, by omega, ?_⟩
  have e1 : wrap64 r = r := wrap64_id r (by omega)
  have e2 : wrap64 (5999 + r) = 5999 + r := wrap64_id _ (by omega)
  rw [e1, e2]; omega
theorem edge_step {w wr w2 : World} {B k : Nat} {v v' : Value} {u : UInt8} {c : Int} {o : Obj} (hB : B = w.heap.size) (hu : (u.toNat : Int) = c) (hown : wr.ownsRow B 5 1 v (2 * k) ((Lx.alt u (2 * k)).map byteV)) (hbel : Below B w wr)
    (hown2 : w2.ownsRow B 5 1 v' (2 * k + 2) ((Lx.alt u (2 * k)).map byteV ++ [.int .u8 c, .int .u8 32])) (hg : (wr.alloc o).grownBy w2 v.ownBlock) :
    w2.ownsRow B 5 1 v' (2 * (k + 1)) ((Lx.alt u (2 * (k + 1))).map byteV) ∧ Below B w w2 := by
  refine ⟨?_, ?_⟩
  · rw [show 2 * (k + 1) = 2 * k + 2 from by omega, Lx.alt_two, List.map_append]
    have e : [u, 32].map byteV = [.int .u8 c, .int .u8 32] := by rw [← hu]; rfl
    rw [e]; exact hown2
  · have h0 := hbel.size
    have hl := hown.lt
    exact Below.grown (hbel.alloc (by omega) _) hg (by simp; omega) (fun k hk => (hl k hk).1)
theorem conv_one (u : UInt8) (c : Int) (hu : (u.toNat : Int) = c) (w : World) :
    (convert 29 9 (.slice (some ⟨w.heap.size, 0, none⟩) 1 1)).run Try.prog (w.alloc (.cells #[.int .u8 c] 5)) = .ok (.string ⟨#[u]⟩) (w.alloc (.cells #[.int .u8 c] 5)) := by
  subst hu
  have := conv_bytes [u] (w.alloc (.cells #[.int .u8 (u.toNat : Int)] 5)) w.heap.size 0 1 (fun k hk => by
    have : k = 0 := by simp at hk; exact hk
    subst this; rw [cell_marked]; rfl) 0 1 1 (by simp)
  exact this

def sizeOf9 : Value → Nat | .string s => s.size | _ => 0
theorem rep_size (u : UInt8) (j : Nat) : (⟨(List.replicate j u).toArray⟩ : ByteArray).size = j := by simp [ByteArray.size]
theorem rep_add (u : UInt8) (j : Nat) : (⟨(List.replicate j u).toArray⟩ : ByteArray) ++ ⟨#[u]⟩ = ⟨(List.replicate (j + 1) u).toArray⟩ := by
  apply ByteArray.ext
  rw [ByteArray.data_append, List.replicate_succ']
  generalize List.replicate j u = r
  show r.toArray ++ #[u] = (r ++ [u]).toArray
  apply Array.ext'
  simp
theorem rep_more (u : UInt8) : ((⟨(List.replicate 20 u).toArray⟩ : ByteArray) ++ ⟨#[97]⟩).data.toList = List.replicate 20 u ++ [97] := by
  rw [ByteArray.data_append]; simp
theorem edge_cells {wr : World} {g k m : Nat} {u : UInt8} (hm : m ≤ 2 * k) (hcell : ∀ j x, ((Lx.alt u (2 * k)).map byteV)[j]? = some x → wr.cell? ⟨g, j, none⟩ = some x) :
    ∀ j, j < (Lx.alt u m).length → wr.cell? ⟨g, 0 + j, none⟩ = some (.int .u8 (((Lx.alt u m).getD j 0).toNat : Int)) := by
  intro j hj
  rw [Nat.zero_add]
  apply hcell
  rw [Lx.alt_len] at hj
  rw [← Lx.alt_take u (2 * k) m hm]
  have hj2 : j < (Lx.alt u (2 * k)).length := by rw [Lx.alt_len]; omega
  simp [List.getD, List.getElem?_take, hj, List.getElem?_eq_getElem hj2, byteV]

set_option maxHeartbeats 2000000 in
theorem edges_low (n c0 : Int) (u : UInt8) (hc : (u.toNat : Int) = c0) (h1 : 97 ≤ u.toNat) (h2 : u.toNat ≤ 122) (w : World) :
    Calls Try.prog 4 #[.int .i64 n, .int .u8 c0] w fun e w' => e = .returned (.bool true) ∧ Below w.heap.size w w' := by
  have hu : (u.toNat : Int) = c0 := hc
  obtain ⟨m, hm1, hm2, hm⟩ := edge_range n
  obtain ⟨i0, hi, hz0, hz1, hz2⟩ := info_parts Try.info5
  obtain ⟨hiw, hnd⟩ := Lx.low_inw u h1 h2
  have Hiw : Hid (Lx.inw u = true) := hiw
  have Hnd : Hid (Lx.dig u = false) := hnd
  have HU : Hid ((u.toNat : Int) = c0) := hu
  clear hiw hnd hu
  have hc1 : (97 : Int) ≤ c0 := by omega
  have hc2 : c0 ≤ 122 := by omega
  clear hc
  go_enter Try.func4, Try.ntmps4
  go_wp2_with fail
  try rw [hm]
  clear hm
  go_loopw [5] (fun v wr => ∃ k : Nat, 2 * k ≤ m + 1 ∧ wr.ownsRow w.heap.size 5 1 v (2 * k) ((Lx.alt u (2 * k)).map byteV) ∧ Below w.heap.size w wr) (fun v _ => m + 1 - lenOf v)
  case atStart => exact ⟨0, by omega, World.ownsRow_nil _ _ _ _, Below.refl _ _⟩
  case round =>
    obtain ⟨k, hk, hown, hbel⟩ := hrel
    obtain ⟨a, cap, rfl⟩ := own_shape hown
    by_cases hlt : 2 * k < m
    · go_wp2_with (at_builtin; refine wpList_append_own _ rfl (.tmp 25) (.tmp 27) 29 rfl w.heap.size 5 i0 (.int .u8 0) 1 1 Try.underlying29 hi hz0 hz1 hz2 rfl (by decide) _ _ _ rfl (hown.alloc _) ⟨wr.heap.size, 0, none⟩ 2 2 [.int .u8 c0, .int .u8 32] rfl rfl ?c1 ?c2 ?c3 ?c4 ?c5 ?_)
      case c1 =>
        intro j x hj
        match j, hj with
        | 0, hj => simp at hj; subst hj; simp [Addr.add]
        | 1, hj => simp at hj; subst hj; simp [Addr.add]
      case c2 => intro x hx; simp at hx; rcases hx with rfl | rfl <;> rfl
      case c3 => unfold maxLen; omega
      case c4 => omega
      case c5 => have h1 := hbel.size; simp; omega
      · intro v' w2 hown2 hgrow2 _
        have hR := edge_step rfl HU.out hown hbel hown2 hgrow2
        clear hown2 hgrow2 hown hbel
        obtain ⟨a', cap', rfl⟩ := own_shape hR.1
        go_wp2
        go_roundw
        case rel => exact ⟨k + 1, by omega, hR.1, hR.2⟩
        case measure => simp [lenOf]; omega
    · obtain ⟨g, cap1, hv, hg, hg', hnc, hcm, hcell⟩ := own_some hown (by omega)
      simp only [Value.slice.injEq] at hv
      obtain ⟨rfl, _, rfl⟩ := hv
      have hmc : (m : Int) ≤ (cap : Int) := by omega
      clear hown
      by_cases hbig : 6000 < m
      · go_wp2_with fail
        refine (Scan_long _ m cap hbig (by unfold maxLen; omega) _).mono ?_
        rintro e w' ⟨rfl, rfl⟩
        go_wp2_with fail
        refine (wakes_any _).mono ?_
        rintro e w3 ⟨rfl, hb3⟩
        go_wp2_with fail
        go_ret
        exact ⟨rfl, hbel.trans (hb3.mono hbel.size)⟩
      · obtain ⟨l, hl, hll⟩ := Lx.scanL_alt u Hiw.out (Lx.nameL_rep u Hiw.out Hnd.out 1 (by decide) (by decide)) m (by omega)
        have hsc := Scan_any (Lx.alt u m) g 0 cap wr (by rw [Lx.alt_len]; omega) (by rw [Lx.alt_len]; omega) hg' (edge_cells (by omega) hcell)
        rw [hl, Lx.alt_len] at hsc
        clear hcell
        go_wp2_with fail
        refine hsc.mono ?_
        clear hsc
        rintro e w1 ⟨v, rfl, hown, hb1⟩
        have hown' : w1.ownsRow wr.heap.size 31 4 v l.length (toksCells l) := hown
        obtain ⟨a, cap', rfl⟩ := own_shape hown'
        clear hown hown'
        have hB : Below w.heap.size w w1 := hbel.trans (hb1.mono hbel.size)
        clear hbel hb1 hl
        have hcv := conv_one u _ HU.out
        have Hll : Hid (l.length = (m + 1) / 2) := hll
        have hq : (((l.length : Nat) : Int) == (m + 1 : Int) / 2) = true := by simp; omega
        clear hll
        go_wp2_with fail
        go_loopw [9] (fun s wr2 => ∃ j : Nat, j ≤ 20 ∧ s = .string ⟨(List.replicate j u).toArray⟩ ∧ Below w.heap.size w wr2) (fun s _ => 20 - sizeOf9 s)
        case atStart => exact ⟨0, by omega, rfl, hB⟩
        case round =>
          obtain ⟨j, hj, rfl, hb2⟩ := hrel
          clear hB
          have hsz := rep_size u j
          by_cases hj20 : j < 20
          · have hadd := rep_add u j
            obtain ⟨S, hS⟩ : ∃ S : ByteArray, S = ⟨(List.replicate j u).toArray⟩ := ⟨_, rfl⟩
            rw [← hS] at hadd hsz ⊢
            have HS : Hid (S = ⟨(List.replicate j u).toArray⟩) := hS
            have HSZ : Hid (S.size = j) := hsz
            have HA : Hid (S ++ ⟨#[u]⟩ = ⟨(List.replicate (j + 1) u).toArray⟩) := hadd
            have hs1 : S.size < 20 := by omega
            have HSA : Hid ((S ++ (⟨#[u]⟩ : ByteArray)).size = S.size + 1) := by show _ = _; rw [ByteArray.size_append]; rfl
            clear hS hadd hsz
            go_wp2
            go_roundw
            case rel => exact ⟨j + 1, by omega, by rw [← HA.out], hb2.alloc hb2.size _⟩
            case measure =>
              show 20 - (S ++ (⟨#[u]⟩ : ByteArray)).size < 20 - S.size
              rw [HSA.out]; omega
          · have hj' : j = 20 := by omega
            subst hj'
            have hn1 := Lx.nameL_rep u Hiw.out Hnd.out 20 (by decide) (by decide)
            have hn2 : Lx.nameL ((⟨(List.replicate 20 u).toArray⟩ : ByteArray) ++ ⟨#[97]⟩).data.toList = false := by rw [rep_more]; exact Lx.nameL_rep21 u
            obtain ⟨S, hS⟩ : ∃ S : ByteArray, S = ⟨(List.replicate 20 u).toArray⟩ := ⟨_, rfl⟩
            rw [← hS] at hn2 hsz ⊢
            have hn1' : Lx.nameL S.data.toList = true := by rw [hS]; exact hn1
            have HN1 : Hid (Lx.nameL S.data.toList = true) := hn1'
            have HN2 : Hid (Lx.nameL (S ++ ⟨#[97]⟩).data.toList = false) := hn2
            have hs1 : 20 ≤ S.size := by omega
            have hs2 : S.size ≤ 20 := by omega
            clear hS hn1 hn1' hn2 hsz hcv
            go_wp2_with fail
            refine (Name_is _ true HN1.out (by unfold maxLen; omega) _).mono ?_
            rintro e w2 ⟨rfl, rfl⟩
            go_wp2_with fail
            refine (Name_is _ false HN2.out (app_size _ _ (by omega) (by decide)) _).mono ?_
            rintro e w2 ⟨rfl, rfl⟩
            go_wp2_with fail
            refine (wakes_any _).mono ?_
            rintro e w3 ⟨rfl, hb3⟩
            go_wp2_with fail
            go_ret
            exact ⟨rfl, hb2.trans (hb3.mono hb2.size)⟩

set_option maxHeartbeats 2000000 in
theorem edges_other (n c0 : Int) (hout : c0 < 97 ∨ 122 < c0) (w : World) :
    Calls Try.prog 4 #[.int .i64 n, .int .u8 c0] w fun e w' => e = .returned (.bool true) ∧ Below w.heap.size w w' := by
  obtain ⟨u, hu0⟩ : ∃ u : UInt8, u = 97 := ⟨_, rfl⟩
  have h1 : 97 ≤ u.toNat := by rw [hu0]; decide
  have h2 : u.toNat ≤ 122 := by rw [hu0]; decide
  have hu : (u.toNat : Int) = 97 := by rw [hu0]; rfl
  clear hu0
  obtain ⟨m, hm1, hm2, hm⟩ := edge_range n
  obtain ⟨i0, hi, hz0, hz1, hz2⟩ := info_parts Try.info5
  obtain ⟨hiw, hnd⟩ := Lx.low_inw u h1 h2
  have Hiw : Hid (Lx.inw u = true) := hiw
  have Hnd : Hid (Lx.dig u = false) := hnd
  have HU : Hid ((u.toNat : Int) = 97) := hu
  clear hiw hnd hu
  rcases hout with hout | hout
  all_goals
    go_enter Try.func4, Try.ntmps4
    go_wp2_with fail
    try rw [hm]
    clear hm
    go_loopw [5] (fun v wr => ∃ k : Nat, 2 * k ≤ m + 1 ∧ wr.ownsRow w.heap.size 5 1 v (2 * k) ((Lx.alt u (2 * k)).map byteV) ∧ Below w.heap.size w wr) (fun v _ => m + 1 - lenOf v)
    case atStart => exact ⟨0, by omega, World.ownsRow_nil _ _ _ _, Below.refl _ _⟩
    case round =>
      obtain ⟨k, hk, hown, hbel⟩ := hrel
      obtain ⟨a, cap, rfl⟩ := own_shape hown
      by_cases hlt : 2 * k < m
      · go_wp2_with (at_builtin; refine wpList_append_own _ rfl (.tmp 25) (.tmp 27) 29 rfl w.heap.size 5 i0 (.int .u8 0) 1 1 Try.underlying29 hi hz0 hz1 hz2 rfl (by decide) _ _ _ rfl (hown.alloc _) ⟨wr.heap.size, 0, none⟩ 2 2 [.int .u8 97, .int .u8 32] rfl rfl ?c1 ?c2 ?c3 ?c4 ?c5 ?_)
        case c1 =>
          intro j x hj
          match j, hj with
          | 0, hj => simp at hj; subst hj; simp [Addr.add]
          | 1, hj => simp at hj; subst hj; simp [Addr.add]
        case c2 => intro x hx; simp at hx; rcases hx with rfl | rfl <;> rfl
        case c3 => unfold maxLen; omega
        case c4 => omega
        case c5 => have h1 := hbel.size; simp; omega
        · intro v' w2 hown2 hgrow2 _
          have hR := edge_step rfl HU.out hown hbel hown2 hgrow2
          clear hown2 hgrow2 hown hbel
          obtain ⟨a', cap', rfl⟩ := own_shape hR.1
          go_wp2
          go_roundw
          case rel => exact ⟨k + 1, by omega, hR.1, hR.2⟩
          case measure => simp [lenOf]; omega
      · obtain ⟨g, cap1, hv, hg, hg', hnc, hcm, hcell⟩ := own_some hown (by omega)
        simp only [Value.slice.injEq] at hv
        obtain ⟨rfl, _, rfl⟩ := hv
        have hmc : (m : Int) ≤ (cap : Int) := by omega
        clear hown
        by_cases hbig : 6000 < m
        · go_wp2_with fail
          refine (Scan_long _ m cap hbig (by unfold maxLen; omega) _).mono ?_
          rintro e w' ⟨rfl, rfl⟩
          go_wp2_with fail
          refine (wakes_any _).mono ?_
          rintro e w3 ⟨rfl, hb3⟩
          go_wp2_with fail
          go_ret
          exact ⟨rfl, hbel.trans (hb3.mono hbel.size)⟩
        · obtain ⟨l, hl, hll⟩ := Lx.scanL_alt u Hiw.out (Lx.nameL_rep u Hiw.out Hnd.out 1 (by decide) (by decide)) m (by omega)
          have hsc := Scan_any (Lx.alt u m) g 0 cap wr (by rw [Lx.alt_len]; omega) (by rw [Lx.alt_len]; omega) hg' (edge_cells (by omega) hcell)
          rw [hl, Lx.alt_len] at hsc
          clear hcell
          go_wp2_with fail
          refine hsc.mono ?_
          clear hsc
          rintro e w1 ⟨v, rfl, hown, hb1⟩
          have hown' : w1.ownsRow wr.heap.size 31 4 v l.length (toksCells l) := hown
          obtain ⟨a, cap', rfl⟩ := own_shape hown'
          clear hown hown'
          have hB : Below w.heap.size w w1 := hbel.trans (hb1.mono hbel.size)
          clear hbel hb1 hl
          have hcv := conv_one u _ HU.out
          have Hll : Hid (l.length = (m + 1) / 2) := hll
          have hq : (((l.length : Nat) : Int) == (m + 1 : Int) / 2) = true := by simp; omega
          clear hll
          go_wp2_with fail
          go_loopw [9] (fun s wr2 => ∃ j : Nat, j ≤ 20 ∧ s = .string ⟨(List.replicate j u).toArray⟩ ∧ Below w.heap.size w wr2) (fun s _ => 20 - sizeOf9 s)
          case atStart => exact ⟨0, by omega, rfl, hB⟩
          case round =>
            obtain ⟨j, hj, rfl, hb2⟩ := hrel
            clear hB
            have hsz := rep_size u j
            by_cases hj20 : j < 20
            · have hadd := rep_add u j
              obtain ⟨S, hS⟩ : ∃ S : ByteArray, S = ⟨(List.replicate j u).toArray⟩ := ⟨_, rfl⟩
              rw [← hS] at hadd hsz ⊢
              have HS : Hid (S = ⟨(List.replicate j u).toArray⟩) := hS
              have HSZ : Hid (S.size = j) := hsz
              have HA : Hid (S ++ ⟨#[u]⟩ = ⟨(List.replicate (j + 1) u).toArray⟩) := hadd
              have hs1 : S.size < 20 := by omega
              have HSA : Hid ((S ++ (⟨#[u]⟩ : ByteArray)).size = S.size + 1) := by show _ = _; rw [ByteArray.size_append]; rfl
              clear hS hadd hsz
              go_wp2
              go_roundw
              case rel => exact ⟨j + 1, by omega, by rw [← HA.out], hb2.alloc hb2.size _⟩
              case measure =>
                show 20 - (S ++ (⟨#[u]⟩ : ByteArray)).size < 20 - S.size
                rw [HSA.out]; omega
            · have hj' : j = 20 := by omega
              subst hj'
              have hn1 := Lx.nameL_rep u Hiw.out Hnd.out 20 (by decide) (by decide)
              have hn2 : Lx.nameL ((⟨(List.replicate 20 u).toArray⟩ : ByteArray) ++ ⟨#[97]⟩).data.toList = false := by rw [rep_more]; exact Lx.nameL_rep21 u
              obtain ⟨S, hS⟩ : ∃ S : ByteArray, S = ⟨(List.replicate 20 u).toArray⟩ := ⟨_, rfl⟩
              rw [← hS] at hn2 hsz ⊢
              have hn1' : Lx.nameL S.data.toList = true := by rw [hS]; exact hn1
              have HN1 : Hid (Lx.nameL S.data.toList = true) := hn1'
              have HN2 : Hid (Lx.nameL (S ++ ⟨#[97]⟩).data.toList = false) := hn2
              have hs1 : 20 ≤ S.size := by omega
              have hs2 : S.size ≤ 20 := by omega
              clear hS hn1 hn1' hn2 hsz hcv
              go_wp2_with fail
              refine (Name_is _ true HN1.out (by unfold maxLen; omega) _).mono ?_
              rintro e w2 ⟨rfl, rfl⟩
              go_wp2_with fail
              refine (Name_is _ false HN2.out (app_size _ _ (by omega) (by decide)) _).mono ?_
              rintro e w2 ⟨rfl, rfl⟩
              go_wp2_with fail
              refine (wakes_any _).mono ?_
              rintro e w3 ⟨rfl, hb3⟩
              go_wp2_with fail
              go_ret
              exact ⟨rfl, hb2.trans (hb3.mono hb2.size)⟩

theorem edges_walk (n c : Int) (w : World) (h0 : 0 ≤ c) (h1 : c ≤ 255) :
    Calls Try.prog 4 #[.int .i64 n, .int .u8 c] w fun e w' => e = .returned (.bool true) ∧ Below w.heap.size w w' := by
  by_cases h : c < 97 ∨ 122 < c
  · exact edges_other n c h w
  · have e : ((UInt8.ofNat c.toNat).toNat : Int) = c := by
      rw [UInt8.toNat_ofNat_of_lt' (by rw [show UInt8.size = 256 from rfl]; omega)]; omega
    exact edges_low n c (UInt8.ofNat c.toNat) e (by omega) (by omega) w

end Go.Proofs.Ytiglcjcellhggab

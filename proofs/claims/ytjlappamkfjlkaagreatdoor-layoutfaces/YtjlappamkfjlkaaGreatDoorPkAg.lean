/- What the laws of this seat lean on: 4 texts. -/
import Derived.Test.YtjlappamkfjlkaaGreatDoorPkAf
import Derived.OwnWalk
import Derived.Test.YtjlappamkfjlkaaGreatDoorPkAe
set_option maxRecDepth 100000
set_option maxHeartbeats 64000000
set_option linter.unusedVariables false
set_option linter.unusedSimpArgs false
namespace Go.Proofs.YtjlappamkfjlkaaGreatDoor
open Go.RowKit
namespace Hr
def UpX (w : World) (u : List Nat) (ys : List Value) : Prop := ∃ v, ys = [v] /\ RowX w 1 IntX v u
theorem UpX.on {w w' : World} {u : List Nat} {ys : List Value} (h : UpX w u ys) (hb : Below w.heap.size w w') : UpX w' u ys := by
 obtain ⟨v, rfl, h⟩ := h; exact ⟨v, rfl, h.on hb fun _ _ h => h⟩
def Met (w : World) (v : Value) (n : Nat) (S : Nat -> Prop) : Prop := ∃ b, v = .slice (some ⟨b, 0, none⟩) n n /\ ∀ j, j < n -> ∃ m : Bool, w.cell? ⟨b, j, none⟩ = some (.bool m) /\ (m = true ↔ S j)
def bl (ms : List Bool) : Array Value := (ms.map Value.bool).toArray
def isT : Value -> Bool
 | .bool b => b
 | _ => false
def unmO : Option Obj -> Nat
 | some (.cells c _ _) => c.toList.countP fun v => !isT v
 | _ => 0
def lenS : Value -> Nat
 | .slice _ n _ => n
 | _ => 0
theorem unmO_bl (ms : List Bool) (t : TypeId) (f : Nat × Nat) : unmO (some (.cells (bl ms) t f)) = unm ms := by
 simp only [unmO, bl, unm]; rw [List.countP_map]
 rfl
theorem bl_at {ms : List Bool} {k : Nat} {m : Bool} (h : ms[k]? = some m) : (bl ms)[k]? = some (.bool m) := by
 simp [bl, h]
theorem bl_set (ms : List Bool) (k : Nat) : (bl ms).setIfInBounds k (.bool true) = bl (ms.set k true) := by
 simp [bl, List.map_set]
theorem i_bool : (Tryz.prog.info? 4).map (fun i => (i.zero, i.size, i.bytes)) = some (some (.bool false), 1, 1) := by kernel_rfl
theorem info_b : ∃ i, Tryz.prog.info? 4 = some i /\ i.zero = some (.bool false) /\ i.size = 1 /\ i.bytes = 1 := by
 have h := i_bool; cases hi : Tryz.prog.info? 4 with
 | none => rw [hi] at h; cases h
 | some i => rw [hi] at h; simp only [Option.map_some, Option.some.injEq, Prod.mk.injEq] at h; exact ⟨i, rfl, h.1, h.2.1, h.2.2⟩
structure BRel (w0 wr : World) (b : Nat) (ms : List Bool) (rs : List Nat) (v : Value) : Prop where
 bel : Below w0.heap.size w0 wr
 blk : wr.heap[b]? = some (.cells (bl ms) 4 (0, 0))
 own : Ow.OwnX wr w0.heap.size 3 1 IntX v rs
theorem BRel.put {w0 wr : World} {b : Nat} {ms : List Bool} {rs : List Nat} {v : Value} (h : BRel w0 wr b ms rs v) (hb : w0.heap.size <= b) (k : Nat) (o : Obj) : BRel w0 ((wr.setCell ⟨b, k, none⟩ (.bool true)).alloc o) b (ms.set k true) rs v := by
 have h1 := Ow.blk_put h.blk k (.bool true); rw [bl_set] at h1; have hkx : Ow.Kx 4 wr (wr.setCell ⟨b, k, none⟩ (.bool true)) := Ow.Kx.set ⟨_, _, h.blk⟩ k _; have ho := h.own.kx hkx (by decide) (fun _ _ h => h)
 have hbl : Below w0.heap.size w0 (wr.setCell ⟨b, k, none⟩ (.bool true)) := h.bel.trans ((Below.refl _ _).setCell hb _); refine ⟨hbl.alloc hbl.size _, ?_, ho.on ((Below.refl _ _).alloc (Nat.le_refl _) _) fun _ _ h => h⟩; rw [heap_alloc_old _ _ (Ow.lt_of_blk h1)]; exact h1
theorem BRel.grow {w0 wr w' : World} {b : Nat} {ms : List Bool} {rs rs' : List Nat} {v v' : Value} (h : BRel w0 wr b ms rs v) (hown : Ow.OwnX w' w0.heap.size 3 1 IntX v' rs') (hg : wr.grownBy w' v.ownBlock) : BRel w0 w' b ms rs' v' := by
 have hkx := Ow.kx_grown h.own hg; have hb := Ow.bel_grown h.own h.bel.size hg; exact ⟨h.bel.trans hb, hkx.blk _ _ _ _ h.blk (by decide), hown⟩
theorem own_last {w : World} {base : Nat} {v : Value} {rs : List Nat} {f : Nat} (h : Ow.OwnX w base 3 1 IntX v (rs ++ [f])) : ∃ g cap, v = .slice (some ⟨g, 0, none⟩) (rs.length + 1) cap /\ w.cell? ⟨g, rs.length, none⟩ = some (.int .i64 f) /\ rs.length + 1 <= cap /\ Ow.OwnX w base 3 1 IntX (.slice (some ⟨g, 0, none⟩) rs.length cap) rs := by
 have hr := h.row shp_int fun _ _ h => h; obtain ⟨news, hf, h1, h2⟩ := h
 rcases h2 with ⟨_, h0⟩ | ⟨g, cap, cur, rfl, hb, hg, hc, hm, hz, ht⟩
 · simp at h0
 · rw [List.length_append, List.length_singleton] at hc ht h1
   refine ⟨g, cap, by rw [List.length_append, List.length_singleton], ?_, hc, ?_⟩
   · obtain ⟨b', o', e, ys, hy, hcl⟩ := row_at hr (k := rs.length) (x := f) (by simp)
     cases e; cases hy; have := hcl w (Below.refl _ _) 0 _ rfl
     simpa using this
   · have key : ∀ {l : List Nat} {ys : List Value}, Ow.Flat IntX l ys -> ys = l.map fun (n : Nat) => Value.int .i64 n := by
      intro l
      induction l with
      | nil => intro ys h; exact h
      | cons x l ih => rintro ys ⟨a, b, e, hx, hl⟩; rw [e, hx, ih hl]; rfl
     have hk2 : ∀ (l : List Nat), Ow.Flat IntX l (l.map fun (n : Nat) => Value.int .i64 n) := by
      intro l
      induction l with
      | nil => rfl
      | cons x l ih => exact ⟨[.int .i64 x], _, rfl, rfl, ih⟩
     have e := key hf; refine ⟨rs.map fun (n : Nat) => Value.int .i64 n, hk2 rs, by simp, .inr ⟨g, cap, cur, rfl, hb, hg, by omega, hm, hz, ?_⟩⟩
     rw [e] at ht; have h3 := congrArg (List.take (rs.length * 1)) ht; rw [List.take_take] at h3; rw [show min (rs.length * 1) ((rs.length + 1) * 1) = rs.length * 1 from by omega] at h3
     rw [h3]; simp
end Hr
theorem beyond_any (n : Nat) (pa : Option Addr) (pc : Nat) (up : List (List Nat)) (vu : Value) (a : Nat) (w : World) (hu : RowX w 1 (Hr.UpX w) vu up) (hn : up.length = n) (ha : a < n) (hk : ∀ u ∈ up, ∀ k ∈ u, k < n) (hl : ∀ u ∈ up, u.length <= 2000) (h1000 : n <= 1000) :
 Calls Tryz.prog 81 #[.agg #[.slice pa n pc, vu], .int .i64 a] w fun e w' => ∃ v, e = .returned v /\ Hr.Met w' v n (Hr.Far up a) /\ Below w.heap.size w w' := by
 obtain ⟨ua, uc, rfl, _⟩ := hu.len; have HU := hide hu; have HK := hide hk; have HL := hide hl; have HN := hide hn; rw [hn] at HU ⊢; clear hu hk hl hn; obtain ⟨i0, hi1, hz0, hz1, hz2⟩ := Ow.info_of Hr.i_int; obtain ⟨j0, hj1, hj0, hj2, hj3⟩ := Hr.info_b; have hx0 := hide (heap_alloc_new w (.cells #[.slice pa n pc, .slice ua n uc] 117)); have HB0 := hide ((Below.refl w.heap.size w).alloc (Nat.le_refl _) (.cells #[.slice pa n pc, .slice ua n uc] 117)); go_enter Tryz.func81, Tryz.ntmps81
 go_wp2_with (at_make; refine wpList_make_full _ rfl _ _ 146 rfl (w.alloc (.cells #[.slice pa n pc, .slice ua n uc] 117)).heap.size 4 j0 (.bool false) 1 Tryz.underlying146 hj1 hj0 hj2 .i64 .i64 _ _ n rfl rfl rfl rfl (by rw [hj3]; omega) (by unfold maxLen; omega) (Nat.le_refl _) ?_)
 intro w1 hown1 hgrow1; have HC : Hid (∀ wx, Below (w.alloc (.cells #[.slice pa n pc, .slice ua n uc] 117)).heap.size (w.alloc (.cells #[.slice pa n pc, .slice ua n uc] 117)) wx -> wx.cell? ⟨w.heap.size, 0, none⟩ = some (.slice pa n pc) /\ wx.cell? ⟨w.heap.size, 1, none⟩ = some (.slice ua n uc)) := hide fun wx hb => ⟨cell_box ((hb.block w.heap.size (Ow.lt_of_blk hx0.out)).trans hx0.out) 0, cell_box ((hb.block w.heap.size (Ow.lt_of_blk hx0.out)).trans hx0.out) 1⟩; have HS0 : Hid ((w.alloc (.cells #[.slice pa n pc, .slice ua n uc] 117)).heap.size = w.heap.size + 1) := hide (by simp)
 generalize w.alloc (.cells #[.slice pa n pc, .slice ua n uc] 117) = w0 at *
 have hB1 : Below w0.heap.size w0 w1 := Below.grown (Below.refl _ _) hgrow1 (Nat.le_refl _) (fun k hk => by cases hk)
 have hblk : w1.heap[w.heap.size + 1]? = some (.cells (Hr.bl (List.replicate n false)) 4 (0, 0)) := by
  obtain ⟨_, h⟩ := hown1
  rcases h with ⟨e, _⟩ | ⟨g, cap, cur, e, _, hg, _, _, hz, ht⟩
  · cases e
  · injection e with e1 e2 e3
    injection e1 with e1; injection e1 with e1; subst e1; subst e3; rw [hg]; rw [List.take_of_length_le (by rw [Array.length_toList, hz]; exact Nat.le_refl _)] at ht
    have : (madeCells #[Value.bool false] n).toList = List.replicate n (.bool false) := toList_madeCells_one _ _; rw [this] at ht
    have hcur : cur = Hr.bl (List.replicate n false) := by
     apply Array.toList_inj.1; rw [ht]; simp [Hr.bl]
    rw [hcur]
 have HR1 : Hid (Hr.BRel w0 (w1.alloc (.cells #[.int .i64 a] 3)) (w.heap.size + 1) (List.replicate n false) [a] (.slice (some ⟨w1.heap.size, 0, none⟩) 1 1)) := hide ⟨hB1.alloc hB1.size _, by rw [heap_alloc_old _ _ (Ow.lt_of_blk hblk)]; exact hblk, ⟨[.int .i64 a], ⟨[.int .i64 a], [], rfl, rfl, rfl⟩, rfl, .inr ⟨w1.heap.size, 1, #[.int .i64 a], rfl, hB1.size, heap_alloc_new w1 _, Nat.le_refl _, by decide, rfl, rfl⟩⟩⟩
 clear hown1 hgrow1 hblk hB1 hx0; go_wp2_with fail
 go_loopw [6] (fun v wr => ∃ (ms : List Bool) (rs : List Nat), Hid (Hr.BRel w0 wr (w.heap.size + 1) ms rs v) /\ Hid (Hr.Inv up n a ms rs)) (fun v wr => 2 * Hr.unmO (wr.heap[w.heap.size + 1]?) + Hr.lenS v)
 case atStart => exact ⟨_, _, HR1, hide (Hr.Inv.start up n a ha)⟩
 case round =>
  obtain ⟨ms, rs, HR, HI⟩ := hrel; obtain ⟨wo, hwo⟩ : ∃ wo : World, wo = wr := ⟨_, rfl⟩; subst hwo; clear HR1
  rcases List.eq_nil_or_concat rs with rfl | ⟨rs', f, rfl⟩
  · obtain ⟨ra, rc, rfl⟩ := HR.out.own.shape
    simp only [List.length_nil]; go_wp2_with fail; go_ret; refine ⟨_, rfl, ⟨_, rfl, fun j hj => ?_⟩, HB0.out.trans (HR.out.bel.mono HB0.out.size)⟩; have hm : ms[j]? = some (ms[j]'(by rw [HI.out.len]; exact hj)) := List.getElem?_eq_getElem _
    refine ⟨_, (cell_box HR.out.blk j).trans (Hr.bl_at hm), ?_⟩; rw [<- HI.out.stop j]; unfold Hr.M; rw [hm]; simp
  · rw [List.concat_eq_append] at HR HI
    have hfn : f < n := HI.out.low f (by simp)
    have hfw : rs'.length + 1 <= n + 1 := by have := HI.out.few; simp at this; omega
    obtain ⟨g, cap, rfl, hcl, hcap, hown'⟩ := Hr.own_last HR.out.own; obtain ⟨u, hu⟩ : ∃ u, up[f]? = some u := ⟨up[f]'(by rw [HN.out]; exact hfn), List.getElem?_eq_getElem _⟩
    obtain ⟨g2, o2, eg2, ys2, ⟨uv, rfl, huv⟩, hc2⟩ := Hr.row_at HU.out hu; subst eg2; have HBo := hide (HB0.out.trans (HR.out.bel.mono HB0.out.size)); have r0 := hc2 wo HBo.out 0 _ rfl; simp only [Nat.mul_one, Nat.add_zero] at r0; have HUm := hide (HK.out u (List.mem_of_getElem? hu)); have hul : u.length <= 2000 := HL.out u (List.mem_of_getElem? hu); have HV := hide huv; have HUF := hide hu; obtain ⟨ka, kc, rfl, _⟩ := huv.len; have hb1 := (HC.out wo HR.out.bel).2; have HM : Hid (∃ c0, 2 * Hr.unm ms + rs'.length <= c0 /\ c0 + 1 = 2 * Hr.unmO (wo.heap[w.heap.size + 1]?) + Hr.lenS (.slice (some ⟨g, 0, none⟩) (rs'.length + 1) cap)) := hide ⟨_, Nat.le_refl _, by rw [HR.out.blk, Hr.unmO_bl]; simp [Hr.lenS]; omega⟩
    have HR0 : Hid (Hr.BRel w0 wo (w.heap.size + 1) ms rs' (.slice (some ⟨g, 0, none⟩) rs'.length cap)) := hide ⟨HR.out.bel, HR.out.blk, hown'⟩; have HI0 := hide (HI.out.pop u); have hfn' : (f : Int) < (n : Int) := by omega
    have hnn : (n : Int) <= 1000 := by omega
    have hrl : (rs'.length : Int) <= 1000 := by omega
    have hrc : (rs'.length : Int) + 1 <= (cap : Int) := by omega
    obtain ⟨q, hq⟩ : ∃ q, q = u.length := ⟨_, rfl⟩; have HQ := hide hq; rw [<- hq] at HV r0 hul; clear hc2 huv hu hown' HR HI hq; obtain ⟨rl, hrl'⟩ : ∃ q, rs'.length = q := ⟨_, rfl⟩; have HRL := hide hrl'; rw [hrl'] at hcl HR0 hrl hrc hfw hcap HM ⊢; clear hrl'; go_wp2_with fail; clear r0 hb1 hcl
    go_loopw [6, 36] (fun v i wr => ∃ (k : Nat) (ms : List Bool) (rs : List Nat), k <= q /\ i = .int .i64 k /\ Hid (Hr.BRel w0 wr (w.heap.size + 1) ms rs v) /\ Hid (Hr.Mid up n a f u k ms rs) /\ Hid (∃ c0, 2 * Hr.unm ms + rs.length <= c0 /\ c0 + 1 = 2 * Hr.unmO (wo.heap[w.heap.size + 1]?) + Hr.lenS (.slice (some ⟨g, 0, none⟩) (rl + 1) cap))) (fun v i _ => q - (intOf i).toNat)
    case atStart => exact ⟨0, ms, rs', Nat.zero_le _, rfl, HR0, HI0, hide (by have := HM.out; rw [<- HRL.out] at this ⊢; exact this)⟩
    case round =>
     obtain ⟨k, ms2, rs2, hk, rfl, HR2, HI2, HM2⟩ := hrel; clear HR0 HI0 HM; have HBr := hide (HB0.out.trans (HR2.out.bel.mono HB0.out.size)); obtain ⟨ra, rc, rfl⟩ := HR2.out.own.shape; by_cases hlt : k < q
     · obtain ⟨y, hy⟩ : ∃ y, u[k]? = some y := ⟨u[k]'(by rw [<- HQ.out]; exact hlt), List.getElem?_eq_getElem _⟩
       obtain ⟨g3, o3, eg3, ys3, hys3, hc3⟩ := Hr.row_at HV.out hy; cases hys3; have hyn : y < n := HUm.out y (List.mem_of_getElem? hy); have r3 := hc3 wr HBr.out 0 _ rfl; simp only [Nat.mul_one, Nat.add_zero] at r3; cases eg3; obtain ⟨m, hm⟩ : ∃ m, ms2[y]? = some m := ⟨ms2[y]'(by rw [HI2.out.len]; exact hyn), List.getElem?_eq_getElem _⟩
       have r5 : wr.cell? ⟨w.heap.size + 1, y, none⟩ = some (.bool m) := (cell_box HR2.out.blk y).trans (Hr.bl_at hm); have r6 : wr.frozen? ⟨w.heap.size + 1, y, none⟩ = false := Ow.fz_blk HR2.out.blk y; have hlt' : (k : Int) < (q : Int) := by omega
       have hq1 : (q : Int) <= 2000 := by omega
       have hyn' : (y : Int) < (n : Int) := by omega
       have HMM := hide hm; have HY := hide hy; clear hc3 hm hy; cases m with
       | true =>
         have HI3 := hide (HI2.out.skip HY.out HMM.out); clear HI2; go_wp2_with fail
         go_roundw
         case rel => first | exact ⟨k + 1, ms2, rs2, by omega, by go_num, HR2, HI3, HM2⟩ | ((repeat apply Exists.intro); exact ⟨⟨k + 1, ms2, rs2, by omega, by go_num, HR2, HI3, HM2⟩, rfl⟩)
         case measure => simp [intOf]; omega
       | false =>
         have hnm : ¬ Hr.M ms2 y := by unfold Hr.M; rw [HMM.out]; simp
         have HI3 := hide (HI2.out.push HUF.out HY.out hyn hnm)
         have HM3 : Hid (∃ c0, 2 * Hr.unm (ms2.set y true) + (rs2 ++ [y]).length <= c0 /\ c0 + 1 = 2 * Hr.unmO (wo.heap[w.heap.size + 1]?) + Hr.lenS (.slice (some ⟨g, 0, none⟩) (rl + 1) cap)) := hide (by
          obtain ⟨c0, h1, h2⟩ := HM2.out; have := Hr.unm_set (ms := ms2) (y := y) (by rw [HI2.out.len]; exact hyn) hnm
          exact ⟨c0, by simp; omega, h2⟩)
         have HR3 := hide (HR2.out.put (Nat.le_of_eq HS0.out) y (.cells #[.int .i64 y] 3)); have hfew : rs2.length <= 1001 := by have := HI2.out.few; omega
         have HAl := hide (heap_alloc_new (wr.setCell ⟨w.heap.size + 1, y, none⟩ (.bool true)) (.cells #[.int .i64 y] 3)); clear HI2 HM2 hnm; have hsz : (wr.setCell ⟨w.heap.size + 1, y, none⟩ (.bool true)).heap.size = wr.heap.size := by simp
         go_wp2_with (at_builtin; refine Ow.wpList_app rfl (.tmp 48) (.tmp 50) 158 rfl Tryz.underlying158 hi1 hz0 hz1 hz2 (by decide) Hr.shp_int rfl HR3.out.own rfl (Hr.row_one (sz := 1) (b := wr.heap.size) (by have := HAl.out; rw [hsz] at this; exact this) rfl) ?c1 (by decide) HR3.out.bel.size ?_)
         case c1 => simp; omega
         · intro v' w10 hown hgrow
           have HR4 := hide (HR3.out.grow hown hgrow); clear hown hgrow HR3 HR2 r3 r5 r6 HAl hsz; go_wp2_with fail
           go_roundw
           case rel => first | exact ⟨k + 1, _, _, by omega, by go_num, HR4, HI3, HM3⟩ | ((repeat apply Exists.intro); exact ⟨⟨k + 1, _, _, by omega, by go_num, HR4, HI3, HM3⟩, rfl⟩)
           case measure => simp [intOf]; omega
     · have HI3 := hide (HI2.out.stop HUF.out (by rw [<- HQ.out]; omega))
       have hnl : ¬ ((k : Int) < (q : Int)) := by omega
       clear HI2; go_wp2_with fail
       go_roundw
       case rel => first | exact ⟨ms2, rs2, HR2, HI3⟩ | ((repeat apply Exists.intro); exact ⟨⟨ms2, rs2, HR2, HI3⟩, rfl⟩)
       case measure =>
        obtain ⟨c0, h1, h2⟩ := HM2.out; rw [HR2.out.blk, Hr.unmO_bl]; simp only [Hr.lenS] at h2 ⊢; omega
namespace Hr
def Yes (P : Prop) (e : Ending) : Prop := ∃ b : Bool, e = .returned (.bool b) /\ (b = true ↔ P)
theorem Yes.yes {P : Prop} (h : P) : Yes P (.returned (.bool true)) := ⟨true, rfl, ⟨fun _ => h, fun _ => rfl⟩⟩
theorem Yes.no {P : Prop} (h : ¬ P) : Yes P (.returned (.bool false)) := ⟨false, rfl, ⟨fun hh => absurd hh (by decide), fun e => absurd e h⟩⟩
theorem Yes.t {P : Prop} {e : Ending} (h : Yes P e) (hp : P) : e = .returned (.bool true) := by
 obtain ⟨b, rfl, hb⟩ := h; rw [hb.2 hp]
theorem Yes.f {P : Prop} {e : Ending} (h : Yes P e) (hp : ¬ P) : e = .returned (.bool false) := by
 obtain ⟨b, rfl, hb⟩ := h; cases b with
 | true => exact absurd (hb.1 rfl) hp
 | false => rfl
structure UpsX (w : World) (n : Nat) (vu : Value) (up : List (List Nat)) : Prop where
 row : RowX w 1 (UpX w) vu up
 len : up.length = n
 low : ∀ u ∈ up, ∀ k ∈ u, k < n
 few : ∀ u ∈ up, u.length <= 2000
 top : n <= 1000
theorem UpsX.on {w w' : World} {n : Nat} {vu : Value} {up : List (List Nat)} (h : UpsX w n vu up) (hb : Below w.heap.size w w') : UpsX w' n vu up :=
 ⟨h.row.on hb fun _ _ h => h.on hb, h.len, h.low, h.few, h.top⟩
end Hr
theorem ring_any (n : Nat) (pa : Option Addr) (pc : Nat) (up : List (List Nat)) (vu : Value) (w : World) (h : Hr.UpsX w n vu up) :
 Calls Tryz.prog 97 #[.agg #[.slice pa n pc, vu]] w fun e w' => Hr.Yes (Hr.Ring up) e /\ Below w.heap.size w w' := by
 have HBy := hide (fun wx (hb : Below w.heap.size w wx) (a : Nat) (ha : a < n) => beyond_any n pa pc up vu a wx (h.on hb).row h.len ha h.low h.few h.top); have HU := hide h; have h1000 := h.top; obtain ⟨ua, uc, rfl, _⟩ := h.row.len; rw [h.len] at HBy ⊢; clear h; have hx0 := hide (heap_alloc_new w (.cells #[.slice pa n pc, .slice ua n uc] 117)); have HB0 := hide ((Below.refl w.heap.size w).alloc (Nat.le_refl _) (.cells #[.slice pa n pc, .slice ua n uc] 117)); go_enter Tryz.func97, Tryz.ntmps97; go_wp2_with fail; have HC : Hid (∀ wx, Below (w.alloc (.cells #[.slice pa n pc, .slice ua n uc] 117)).heap.size (w.alloc (.cells #[.slice pa n pc, .slice ua n uc] 117)) wx -> wx.cell? ⟨w.heap.size, 0, none⟩ = some (.slice pa n pc) /\ wx.cell? ⟨w.heap.size, 1, none⟩ = some (.slice ua n uc)) := hide fun wx hb => ⟨cell_box ((hb.block w.heap.size (Ow.lt_of_blk hx0.out)).trans hx0.out) 0, cell_box ((hb.block w.heap.size (Ow.lt_of_blk hx0.out)).trans hx0.out) 1⟩; generalize w.alloc (.cells #[.slice pa n pc, .slice ua n uc] 117) = w0 at *
 clear hx0
 go_loopw [7] (fun i wr => ∃ k : Nat, k <= n /\ i = .int .i64 k /\ Hid (Below w0.heap.size w0 wr) /\ Hid (∀ j, j < k -> ¬ Hr.Far up j j)) (fun i _ => n - (intOf i).toNat)
 case atStart => exact ⟨0, Nat.zero_le _, rfl, hide (Below.refl _ _), hide fun j hj => absurd hj (Nat.not_lt_zero _)⟩
 case round =>
  obtain ⟨k, hk, rfl, HBr, HF⟩ := hrel; have HBw := hide (HB0.out.trans (HBr.out.mono HB0.out.size)); have hn1 : (n : Int) <= 1000 := by omega
  by_cases hlt : k < n
  · have c0 := (HC.out wr HBr.out).1
    have c1 := (HC.out wr HBr.out).2; have hlt' : (k : Int) < (n : Int) := by omega
    go_wp2_with fail; refine (HBy.out wr HBw.out k hlt).mono ?_; rintro e w5 ⟨v, rfl, ⟨b, rfl, hm⟩, hb5⟩; obtain ⟨m, hm1, hm2⟩ := hm k hlt; have HB5 := hide (HBr.out.trans (hb5.mono HBr.out.size)); have HM2 := hide hm2; clear hm hb5 c0 c1 hm2; cases m with
    | true =>
      go_wp2_with fail; go_ret; exact ⟨.yes ⟨k, HM2.out.1 (by simp)⟩, HB0.out.trans (HB5.out.mono HB0.out.size)⟩
    | false =>
      have HF' : Hid (∀ j, j < k + 1 -> ¬ Hr.Far up j j) := hide fun j hj hf => by
       rcases Nat.lt_or_eq_of_le (Nat.le_of_lt_succ hj) with h | rfl
       · exact HF.out j h hf
       · have := HM2.out.2 hf; cases this
      clear HM2 HF; go_wp2_with fail
      go_roundw
      case rel => first | exact ⟨k + 1, by omega, by go_num, HB5, HF'⟩ | ((repeat apply Exists.intro); exact ⟨⟨k + 1, by omega, by go_num, HB5, HF'⟩, rfl⟩)
      case measure => simp [intOf]; omega
  · have hnl : ¬ ((k : Int) < (n : Int)) := by omega
    go_wp2_with fail; go_ret; refine ⟨.no ?_, HBw.out⟩; rintro ⟨i, hi⟩
    have key : ∀ {i j : Nat}, Hr.Far up i j -> i < up.length := by
     intro i j h; exact Hr.Far.ind (C := fun i _ => i < up.length) (fun ⟨u, hu, _⟩ => (List.getElem?_eq_some_iff.1 hu).1) (fun _ _ ih => ih) h
    have := key hi; rw [HU.out.len] at this; exact HF.out i (by omega) hi
theorem under_any (n : Nat) (pa : Option Addr) (pc : Nat) (up : List (List Nat)) (vu : Value) (lo hi : Nat) (w : World) (h : Hr.UpsX w n vu up) (h1 : lo < n) (h2 : hi < n) :
 Calls Tryz.prog 56 #[.agg #[.slice pa n pc, vu], .int .i64 lo, .int .i64 hi] w fun e w' => Hr.Yes (lo = hi \/ hi = 0 \/ Hr.Far up lo hi) e /\ Below w.heap.size w w' := by
 have HBy := hide (fun wx (hb : Below w.heap.size w wx) (a : Nat) (ha : a < n) => beyond_any n pa pc up vu a wx (h.on hb).row h.len ha h.low h.few h.top); have h1000 := h.top; obtain ⟨ua, uc, rfl, _⟩ := h.row.len; rw [h.len] at HBy ⊢; clear h; have HB0 := hide ((Below.refl w.heap.size w).alloc (Nat.le_refl _) (.cells #[.slice pa n pc, .slice ua n uc] 117)); have hn1 : (n : Int) <= 1000 := by omega
 by_cases hq : lo = hi
 · subst hq
   go_enter Tryz.func56, Tryz.ntmps56; go_wp2_with fail; go_ret; exact ⟨.yes (by simp), HB0.out⟩
 · have hq' : (lo : Int) ≠ (hi : Int) := by omega
   by_cases hz : hi = 0
   · subst hz
     go_enter Tryz.func56, Tryz.ntmps56; go_wp2_with fail; go_ret; exact ⟨.yes (by simp), HB0.out⟩
   · have hz' : (hi : Int) ≠ 0 := by omega
     have h1' : (lo : Int) < (n : Int) := by omega
     have h2' : (hi : Int) < (n : Int) := by omega
     have HQ := hide hq; have HZ := hide hz; clear hq hz; go_enter Tryz.func56, Tryz.ntmps56; go_wp2_with fail; refine (HBy.out _ HB0.out lo h1).mono ?_; rintro e w5 ⟨v, rfl, ⟨b, rfl, hm⟩, hb5⟩; obtain ⟨m, hm1, hm2⟩ := hm hi h2; have HB5 := hide (HB0.out.trans (hb5.mono HB0.out.size)); have HM2 := hide hm2; clear hm hb5 hm2; go_wp2_with fail; go_ret; refine ⟨⟨_, rfl, ?_⟩, HB5.out⟩; simp only [Bool.or_eq_true, beq_iff_eq]; rw [HM2.out]
     exact ⟨fun h => by
      rcases h with (h | h) | h
      · exact absurd h hq'
      · exact absurd h hz'
      · exact .inr (.inr h), fun h => by
      rcases h with h | h | h
      · exact absurd h HQ.out
      · exact absurd h HZ.out
      · exact .inr h⟩
namespace Ly
theorem nodup_step {α : Type} {f : α -> Pp.Bs} {l : List α} {k : Nat} {x : α} (h : ((l.take k).map f).Nodup) (hx : l[k]? = some x) (hn : (l.take k).any (fun y => f x == f y) = false) : ((l.take (k + 1)).map f).Nodup := by
 rw [List.take_add_one, hx, Option.toList_some, List.map_append, List.nodup_append]; refine ⟨h, by simp, fun a ha b hb => ?_⟩
 obtain ⟨y, hy, rfl⟩ := List.mem_map.1 ha; simp at hb; subst hb; have := List.any_eq_false.1 hn y hy; intro e; exact this (by simp [e])
theorem nodup_not {α : Type} {f : α -> Pp.Bs} {l : List α} {k : Nat} {x : α} (hx : l[k]? = some x) (hn : (l.take k).any (fun y => f x == f y) = true) : ¬ (l.map f).Nodup := by
 intro h; obtain ⟨y, hy, e⟩ := List.any_eq_true.1 hn; have e : f x = f y := by simpa using e
 have h2 : ((l.take (k + 1)).map f).Nodup := List.Nodup.sublist ((List.take_sublist (k + 1) l).map f) h; rw [List.take_add_one, hx, Option.toList_some, List.map_append, List.nodup_append] at h2; exact h2.2.2 (f y) (List.mem_map.2 ⟨y, hy, rfl⟩) (f x) (by simp) e.symm
end Ly
theorem RowX.take {α : Type} {w : World} {sz : Nat} {P : α -> List Value -> Prop} {a : Option Addr} {n c : Nat} {l : List α} (h : RowX w sz P (.slice a n c) l) {k : Nat} (hk : k <= l.length) : RowX w sz P (.slice a k c) (l.take k) := by
 obtain ⟨a', c', e, hc, h⟩ := h; injection e with e1 e2 e3; subst e1 e3; refine ⟨a, c, by rw [List.length_take, Nat.min_eq_left hk], by rw [List.length_take]; omega, ?_⟩
 rcases h with rfl | ⟨b, o, e4, hlt, hr⟩
 · exact .inl (by simp)
 · refine .inr ⟨b, o, e4, hlt, fun j x hj => hr j x ?_⟩
   rw [List.getElem?_take] at hj
   split at hj
   · exact hj
   · cases hj
theorem tw1_any (x : Pp.Fld) (ys : List Value) (w : World) (h : FldX x ys) :
 Calls Tryz.prog 122 #[.agg ys.toArray] w fun e w' => e = .returned (.string ⟨x.name.toArray⟩) /\ Below w.heap.size w w' := by
 obtain ⟨rfl, _⟩ := h; simp only [fldL]; have HB := hide ((Below.refl w.heap.size w).alloc (Nat.le_refl _) (.cells #[.string ⟨x.name.toArray⟩, .int .i64 x.ty.kind, .string ⟨x.ty.name.toArray⟩, .bool x.stat] 72)); go_enter Tryz.func122, Tryz.ntmps122; go_wp2_with fail; go_ret; exact ⟨rfl, HB.out⟩
theorem repF1_any (x y : Pp.Fld) (xs ys : List Value) (bn bx : Nat) (w : World) (hx : FldX x xs) (hy : FldX y ys) (hbn : bn < w.heap.size) (hbx : bx < w.heap.size) (hn : w.cell? ⟨bn, 0, none⟩ = some (.func (.func 122) #[] #[]))
 (hxc : ∀ (j : Nat) (u : Value), xs[j]? = some u -> w.cell? ⟨bx, j, none⟩ = some u) :
 Calls Tryz.prog 144 #[.agg ys.toArray, .pointer (some ⟨bn, 0, none⟩), .pointer (some ⟨bx, 0, none⟩)] w fun e w' => e = .returned (.bool (x.name == y.name)) /\ Below w.heap.size w w' := by
 have HTx := hide (fun wx => tw1_any x xs wx hx); have HTy := hide (fun wx => tw1_any y ys wx hy); obtain ⟨rfl, _⟩ := hx; simp only [fldL] at HTx hxc; obtain ⟨rfl, _⟩ := hy; simp only [fldL] at HTy ⊢; have hb0 := (Below.refl w.heap.size w).alloc (Nat.le_refl _) (.cells #[.string ⟨y.name.toArray⟩, .int .i64 y.ty.kind, .string ⟨y.ty.name.toArray⟩, .bool y.stat] 72); have hy0 := heap_alloc_new w (.cells #[.string ⟨y.name.toArray⟩, .int .i64 y.ty.kind, .string ⟨y.ty.name.toArray⟩, .bool y.stat] 72); have HB := hide hb0
 have HS : Hid (∀ wz, Below (w.alloc (.cells #[.string ⟨y.name.toArray⟩, .int .i64 y.ty.kind, .string ⟨y.ty.name.toArray⟩, .bool y.stat] 72)).heap.size (w.alloc (.cells #[.string ⟨y.name.toArray⟩, .int .i64 y.ty.kind, .string ⟨y.ty.name.toArray⟩, .bool y.stat] 72)) wz -> wz.cell? ⟨bn, 0, none⟩ = some (.func (.func 122) #[] #[]) /\ wz.cell? ⟨bx, 0, none⟩ = some (.string ⟨x.name.toArray⟩) /\ wz.cell? ⟨bx, 1, none⟩ = some (.int .i64 x.ty.kind) /\ wz.cell? ⟨bx, 2, none⟩ = some (.string ⟨x.ty.name.toArray⟩) /\ wz.cell? ⟨bx, 3, none⟩ = some (.bool x.stat) /\ wz.cell? ⟨w.heap.size, 0, none⟩ = some (.string ⟨y.name.toArray⟩) /\ wz.cell? ⟨w.heap.size, 1, none⟩ = some (.int .i64 y.ty.kind) /\ wz.cell? ⟨w.heap.size, 2, none⟩ = some (.string ⟨y.ty.name.toArray⟩) /\ wz.cell? ⟨w.heap.size, 3, none⟩ = some (.bool y.stat)) := hide fun wz hb2 => by
  have hb := hb0.trans (hb2.mono hb0.size); exact ⟨(hb.cell hbn).trans hn, (hb.cell hbx).trans (hxc 0 _ rfl), (hb.cell hbx).trans (hxc 1 _ rfl), (hb.cell hbx).trans (hxc 2 _ rfl), (hb.cell hbx).trans (hxc 3 _ rfl), cell_box ((hb2.block _ (Ow.lt_of_blk hy0)).trans hy0) 0, cell_box ((hb2.block _ (Ow.lt_of_blk hy0)).trans hy0) 1, cell_box ((hb2.block _ (Ow.lt_of_blk hy0)).trans hy0) 2, cell_box ((hb2.block _ (Ow.lt_of_blk hy0)).trans hy0) 3⟩
 obtain ⟨r, hr⟩ : ∃ r, r = (x.name == y.name) := ⟨_, rfl⟩; have HR := hide hr; rw [<- hr]; clear hb0 hy0 hxc hn hr; go_enter Tryz.func144, Tryz.ntmps144; go_wp2_with fail; generalize w.alloc (.cells #[.string ⟨y.name.toArray⟩, .int .i64 y.ty.kind, .string ⟨y.ty.name.toArray⟩, .bool y.stat] 72) = wa at *
 have HBz : Hid (Below wa.heap.size wa wa.drew) := hide (Below.drew (Below.refl _ _))
 go_region_held3 (fun wz => wz.cell? ⟨bn, 0, none⟩ = some (.func (.func 122) #[] #[]) /\ wz.cell? ⟨bx, 0, none⟩ = some (.string ⟨x.name.toArray⟩) /\ wz.cell? ⟨bx, 1, none⟩ = some (.int .i64 x.ty.kind) /\ wz.cell? ⟨bx, 2, none⟩ = some (.string ⟨x.ty.name.toArray⟩) /\ wz.cell? ⟨bx, 3, none⟩ = some (.bool x.stat) /\ wz.cell? ⟨w.heap.size, 0, none⟩ = some (.string ⟨y.name.toArray⟩) /\ wz.cell? ⟨w.heap.size, 1, none⟩ = some (.int .i64 y.ty.kind) /\ wz.cell? ⟨w.heap.size, 2, none⟩ = some (.string ⟨y.ty.name.toArray⟩) /\ wz.cell? ⟨w.heap.size, 3, none⟩ = some (.bool y.stat)) (exact HS.out _ HBz.out)
  (first
    | (go_at_call 122
       refine (HTx.out _).mono ?_; rintro e wn ⟨rfl, hbn'⟩; have HBz := hide (HBz.out.trans (hbn'.mono HBz.out.size))
       clear hbn')
    | (go_at_call 122
       refine (HTy.out _).mono ?_; rintro e wn ⟨rfl, hbn'⟩; have HBz := hide (HBz.out.trans (hbn'.mono HBz.out.size))
       clear hbn')
    | fail)
 have HB2 := hide (HB.out.trans (HBz.out.mono HB.out.size)); clear HBz HS HTx HTy; go_wp2_with fail; go_ret; refine ⟨?_, HB2.out⟩; rw [HR.out]
 first | rfl | simp
theorem repF_any (l : List Pp.Fld) (v : Value) (w : World) (h : RowX w 4 FldX v l) (hn : l.length <= 100000) :
 Calls Tryz.prog 121 #[v, .func (.func 122) #[] #[]] w fun e w' => Hr.Yes (¬ (l.map (·.name)).Nodup) e /\ Below w.heap.size w w' := by
 have HR := hide h; obtain ⟨a, c, rfl, hcap⟩ := h.len; have HRk := hide (fun (k : Nat) (hk : k <= l.length) => h.take hk); clear h; obtain ⟨m, hm⟩ : ∃ q, q = l.length := ⟨_, rfl⟩; have HN := hide hm; rw [<- hm] at HR hn HRk hcap ⊢; clear hm; have hm1 : (m : Int) <= 100000 := by omega
 have HB0 := hide ((Below.refl w.heap.size w).alloc (Nat.le_refl _) (.cells #[.func (.func 122) #[] #[]] 177)); have HX0 := hide (heap_alloc_new w (.cells #[.func (.func 122) #[] #[]] 177)); have hmf : ∀ (fn : Fn) (first cap : Array Value) (w : World), (Instr.makeFunc fn first cap).run Tryz.prog w = .ok (.func fn first cap) w := fun _ _ _ _ => rfl
 go_enter Tryz.func121, Tryz.ntmps121; go_wp2_with fail; generalize w.alloc (.cells #[.func (.func 122) #[] #[]] 177) = wa at *
 go_loopw [9] (fun i wr => ∃ k : Nat, k <= m /\ i = .int .i64 k /\ Hid (Below wa.heap.size wa wr) /\ Hid (((l.take k).map (·.name)).Nodup)) (fun i _ => m - (intOf i).toNat)
 case atStart => exact ⟨0, Nat.zero_le _, rfl, hide (Below.refl _ _), hide (by simp)⟩
 case round =>
  obtain ⟨k, hk, rfl, HB, HNo⟩ := hrel; have HBw := hide (HB0.out.trans (HB.out.mono HB0.out.size)); by_cases hlt : k < m
  · obtain ⟨x, hx⟩ : ∃ x, l[k]? = some x := ⟨l[k]'(by rw [<- HN.out]; exact hlt), List.getElem?_eq_getElem _⟩
    obtain ⟨g, o, rfl, ys, wf, hc⟩ := Ow.row_at' HR.out hx; have hG := hide (hc wr HBw.out); have HY := hide (fun hp => Ly.nodup_not (f := (·.name)) hx hp); have HZ := hide (fun hp => Ly.nodup_step (f := (·.name)) HNo.out hx hp); have HWf := hide wf; clear hc hx HNo; obtain ⟨rfl, _⟩ := wf; simp only [fldL] at HWf; have r0 := hG.out 0 _ rfl; have r1 := hG.out 1 _ rfl; have r2 := hG.out 2 _ rfl; have r3 := hG.out 3 _ rfl; rw [Nat.add_zero] at r0
    try dsimp only at r0 r1 r2 r3
    clear hG; have hlt' : (k : Int) < (m : Int) := by omega
    have hA : Below wr.heap.size wr (wr.alloc (.cells #[.string ⟨x.name.toArray⟩, .int .i64 x.ty.kind, .string ⟨x.ty.name.toArray⟩, .bool x.stat] 72)) := (Below.refl _ _).alloc (Nat.le_refl _) _; have HBA := hide (HB.out.trans (hA.mono HB.out.size)); have HBwA := hide (HBw.out.trans (hA.mono HBw.out.size)); have hbx := heap_alloc_new wr (.cells #[.string ⟨x.name.toArray⟩, .int .i64 x.ty.kind, .string ⟨x.ty.name.toArray⟩, .bool x.stat] 72); have HX1 := hide ((HBA.out.block _ (Ow.lt_of_blk HX0.out)).trans HX0.out)
    have HCf := hide (cfFl_any (l.take k) (.slice (some ⟨g, o, none⟩) k c) ⟨w.heap.size, 0, none⟩ ⟨wr.heap.size, 0, none⟩ (fun y => x.name == y.name) _ ((HRk.out k hk).on HBwA.out fun _ _ h => h) (by rw [List.length_take]; omega) fun y ys _ hp wx hb =>
     repF1_any x y _ ys w.heap.size wr.heap.size wx HWf.out hp (Nat.lt_of_lt_of_le (Ow.lt_of_blk HX1.out) hb.size) (Nat.lt_of_lt_of_le (Ow.lt_of_blk hbx) hb.size) ((cell_box ((hb.block _ (Ow.lt_of_blk HX1.out)).trans HX1.out) 0).trans rfl) (fun j u hu => (cell_box ((hb.block _ (Ow.lt_of_blk hbx)).trans hbx) j).trans (by simpa using hu)))
    have hkc : k <= c := Nat.le_trans hk hcap; have hkc' : (k : Int) <= (c : Int) := by omega
    generalize (l.take k).any (fun y => x.name == y.name) = px at HY HZ HCf; clear hbx hA HX1 HWf; go_wp2_with fail; refine HCf.out.mono ?_; rintro e w1 ⟨rfl, hb1⟩; have HB1 := hide (HBA.out.trans (hb1.mono HBA.out.size)); clear HCf hb1; cases px with
    | true =>
      have HY' := hide (HY.out rfl); clear HY HZ; go_wp2_with fail; go_ret; exact ⟨.yes HY'.out, HB0.out.trans (HB1.out.mono HB0.out.size)⟩
    | false =>
      have HZ' := hide (HZ.out rfl); clear HY HZ; go_wp2_with fail
      go_roundw
      case rel => exact ⟨k + 1, by omega, by go_num, HB1, HZ'⟩
      case measure => simp [intOf]; omega
  · have HZ : Hid ((l.map (·.name)).Nodup) := hide (by
     have := HNo.out
     rwa [List.take_of_length_le (by rw [<- HN.out]; omega)] at this)
    have hnl : ¬ ((k : Int) < (m : Int)) := by omega
    clear HNo; go_wp2_with fail; go_ret; exact ⟨.no fun h => h HZ.out, HBw.out⟩
theorem tw2_any (wp : World) (x : Pp.XMth) (ys : List Value) (w : World) (h : (MthX wp) x ys) :
 Calls Tryz.prog 124 #[.agg ys.toArray] w fun e w' => e = .returned (.string ⟨x.name.toArray⟩) /\ Below w.heap.size w w' := by
 obtain ⟨vp, vc, vk, rfl, x1, x2, x3, _⟩ := h; obtain ⟨xa1, xd1, rfl, _⟩ := x1.len; obtain ⟨xa2, xd2, rfl, _⟩ := x2.len; obtain ⟨xa3, xd3, rfl, _⟩ := x3.len; clear x1 x2 x3; simp only [mthXL]; have HB := hide ((Below.refl w.heap.size w).alloc (Nat.le_refl _) (.cells #[.string ⟨x.name.toArray⟩, .bool x.stat, .bool x.abst, .slice xa1 x.params.length xd1, .int .i64 x.ret.kind, .string ⟨x.ret.name.toArray⟩, .int .i64 x.locals, .slice xa2 x.code.length xd2, .slice xa3 x.catches.length xd3] 39)); go_enter Tryz.func124, Tryz.ntmps124; go_wp2_with fail; go_ret; exact ⟨rfl, HB.out⟩
theorem repM1_any (wp : World) (x y : Pp.XMth) (xs ys : List Value) (bn bx : Nat) (w : World) (hx : (MthX wp) x xs) (hy : (MthX wp) y ys) (hbn : bn < w.heap.size) (hbx : bx < w.heap.size) (hn : w.cell? ⟨bn, 0, none⟩ = some (.func (.func 124) #[] #[]))
 (hxc : ∀ (j : Nat) (u : Value), xs[j]? = some u -> w.cell? ⟨bx, j, none⟩ = some u) :
 Calls Tryz.prog 146 #[.agg ys.toArray, .pointer (some ⟨bn, 0, none⟩), .pointer (some ⟨bx, 0, none⟩)] w fun e w' => e = .returned (.bool (x.name == y.name)) /\ Below w.heap.size w w' := by
 have HTx := hide (fun wx => tw2_any wp x xs wx hx); have HTy := hide (fun wx => tw2_any wp y ys wx hy); obtain ⟨vp, vc, vk, rfl, x1, x2, x3, _⟩ := hx; obtain ⟨xa1, xd1, rfl, _⟩ := x1.len; obtain ⟨xa2, xd2, rfl, _⟩ := x2.len; obtain ⟨xa3, xd3, rfl, _⟩ := x3.len; clear x1 x2 x3; simp only [mthXL] at HTx hxc; obtain ⟨vp, vc, vk, rfl, x1, x2, x3, _⟩ := hy; obtain ⟨ya1, yd1, rfl, _⟩ := x1.len; obtain ⟨ya2, yd2, rfl, _⟩ := x2.len; obtain ⟨ya3, yd3, rfl, _⟩ := x3.len; clear x1 x2 x3; simp only [mthXL] at HTy ⊢; have hb0 := (Below.refl w.heap.size w).alloc (Nat.le_refl _) (.cells #[.string ⟨y.name.toArray⟩, .bool y.stat, .bool y.abst, .slice ya1 y.params.length yd1, .int .i64 y.ret.kind, .string ⟨y.ret.name.toArray⟩, .int .i64 y.locals, .slice ya2 y.code.length yd2, .slice ya3 y.catches.length yd3] 39); have hy0 := heap_alloc_new w (.cells #[.string ⟨y.name.toArray⟩, .bool y.stat, .bool y.abst, .slice ya1 y.params.length yd1, .int .i64 y.ret.kind, .string ⟨y.ret.name.toArray⟩, .int .i64 y.locals, .slice ya2 y.code.length yd2, .slice ya3 y.catches.length yd3] 39); have HB := hide hb0
 have HS : Hid (∀ wz, Below (w.alloc (.cells #[.string ⟨y.name.toArray⟩, .bool y.stat, .bool y.abst, .slice ya1 y.params.length yd1, .int .i64 y.ret.kind, .string ⟨y.ret.name.toArray⟩, .int .i64 y.locals, .slice ya2 y.code.length yd2, .slice ya3 y.catches.length yd3] 39)).heap.size (w.alloc (.cells #[.string ⟨y.name.toArray⟩, .bool y.stat, .bool y.abst, .slice ya1 y.params.length yd1, .int .i64 y.ret.kind, .string ⟨y.ret.name.toArray⟩, .int .i64 y.locals, .slice ya2 y.code.length yd2, .slice ya3 y.catches.length yd3] 39)) wz -> wz.cell? ⟨bn, 0, none⟩ = some (.func (.func 124) #[] #[]) /\ wz.cell? ⟨bx, 0, none⟩ = some (.string ⟨x.name.toArray⟩) /\ wz.cell? ⟨bx, 1, none⟩ = some (.bool x.stat) /\ wz.cell? ⟨bx, 2, none⟩ = some (.bool x.abst) /\ wz.cell? ⟨bx, 3, none⟩ = some (.slice xa1 x.params.length xd1) /\ wz.cell? ⟨bx, 4, none⟩ = some (.int .i64 x.ret.kind) /\ wz.cell? ⟨bx, 5, none⟩ = some (.string ⟨x.ret.name.toArray⟩) /\ wz.cell? ⟨bx, 6, none⟩ = some (.int .i64 x.locals) /\ wz.cell? ⟨bx, 7, none⟩ = some (.slice xa2 x.code.length xd2) /\ wz.cell? ⟨bx, 8, none⟩ = some (.slice xa3 x.catches.length xd3) /\ wz.cell? ⟨w.heap.size, 0, none⟩ = some (.string ⟨y.name.toArray⟩) /\ wz.cell? ⟨w.heap.size, 1, none⟩ = some (.bool y.stat) /\ wz.cell? ⟨w.heap.size, 2, none⟩ = some (.bool y.abst) /\ wz.cell? ⟨w.heap.size, 3, none⟩ = some (.slice ya1 y.params.length yd1) /\ wz.cell? ⟨w.heap.size, 4, none⟩ = some (.int .i64 y.ret.kind) /\ wz.cell? ⟨w.heap.size, 5, none⟩ = some (.string ⟨y.ret.name.toArray⟩) /\ wz.cell? ⟨w.heap.size, 6, none⟩ = some (.int .i64 y.locals) /\ wz.cell? ⟨w.heap.size, 7, none⟩ = some (.slice ya2 y.code.length yd2) /\ wz.cell? ⟨w.heap.size, 8, none⟩ = some (.slice ya3 y.catches.length yd3)) := hide fun wz hb2 => by
  have hb := hb0.trans (hb2.mono hb0.size); exact ⟨(hb.cell hbn).trans hn, (hb.cell hbx).trans (hxc 0 _ rfl), (hb.cell hbx).trans (hxc 1 _ rfl), (hb.cell hbx).trans (hxc 2 _ rfl), (hb.cell hbx).trans (hxc 3 _ rfl), (hb.cell hbx).trans (hxc 4 _ rfl), (hb.cell hbx).trans (hxc 5 _ rfl), (hb.cell hbx).trans (hxc 6 _ rfl), (hb.cell hbx).trans (hxc 7 _ rfl), (hb.cell hbx).trans (hxc 8 _ rfl), cell_box ((hb2.block _ (Ow.lt_of_blk hy0)).trans hy0) 0, cell_box ((hb2.block _ (Ow.lt_of_blk hy0)).trans hy0) 1, cell_box ((hb2.block _ (Ow.lt_of_blk hy0)).trans hy0) 2, cell_box ((hb2.block _ (Ow.lt_of_blk hy0)).trans hy0) 3, cell_box ((hb2.block _ (Ow.lt_of_blk hy0)).trans hy0) 4, cell_box ((hb2.block _ (Ow.lt_of_blk hy0)).trans hy0) 5, cell_box ((hb2.block _ (Ow.lt_of_blk hy0)).trans hy0) 6, cell_box ((hb2.block _ (Ow.lt_of_blk hy0)).trans hy0) 7, cell_box ((hb2.block _ (Ow.lt_of_blk hy0)).trans hy0) 8⟩
 obtain ⟨r, hr⟩ : ∃ r, r = (x.name == y.name) := ⟨_, rfl⟩; have HR := hide hr; rw [<- hr]; clear hb0 hy0 hxc hn hr; go_enter Tryz.func146, Tryz.ntmps146; go_wp2_with fail; generalize w.alloc (.cells #[.string ⟨y.name.toArray⟩, .bool y.stat, .bool y.abst, .slice ya1 y.params.length yd1, .int .i64 y.ret.kind, .string ⟨y.ret.name.toArray⟩, .int .i64 y.locals, .slice ya2 y.code.length yd2, .slice ya3 y.catches.length yd3] 39) = wa at *
 have HBz : Hid (Below wa.heap.size wa wa.drew) := hide (Below.drew (Below.refl _ _))
 go_region_held3 (fun wz => wz.cell? ⟨bn, 0, none⟩ = some (.func (.func 124) #[] #[]) /\ wz.cell? ⟨bx, 0, none⟩ = some (.string ⟨x.name.toArray⟩) /\ wz.cell? ⟨bx, 1, none⟩ = some (.bool x.stat) /\ wz.cell? ⟨bx, 2, none⟩ = some (.bool x.abst) /\ wz.cell? ⟨bx, 3, none⟩ = some (.slice xa1 x.params.length xd1) /\ wz.cell? ⟨bx, 4, none⟩ = some (.int .i64 x.ret.kind) /\ wz.cell? ⟨bx, 5, none⟩ = some (.string ⟨x.ret.name.toArray⟩) /\ wz.cell? ⟨bx, 6, none⟩ = some (.int .i64 x.locals) /\ wz.cell? ⟨bx, 7, none⟩ = some (.slice xa2 x.code.length xd2) /\ wz.cell? ⟨bx, 8, none⟩ = some (.slice xa3 x.catches.length xd3) /\ wz.cell? ⟨w.heap.size, 0, none⟩ = some (.string ⟨y.name.toArray⟩) /\ wz.cell? ⟨w.heap.size, 1, none⟩ = some (.bool y.stat) /\ wz.cell? ⟨w.heap.size, 2, none⟩ = some (.bool y.abst) /\ wz.cell? ⟨w.heap.size, 3, none⟩ = some (.slice ya1 y.params.length yd1) /\ wz.cell? ⟨w.heap.size, 4, none⟩ = some (.int .i64 y.ret.kind) /\ wz.cell? ⟨w.heap.size, 5, none⟩ = some (.string ⟨y.ret.name.toArray⟩) /\ wz.cell? ⟨w.heap.size, 6, none⟩ = some (.int .i64 y.locals) /\ wz.cell? ⟨w.heap.size, 7, none⟩ = some (.slice ya2 y.code.length yd2) /\ wz.cell? ⟨w.heap.size, 8, none⟩ = some (.slice ya3 y.catches.length yd3)) (exact HS.out _ HBz.out)
  (first
    | (go_at_call 124
       refine (HTx.out _).mono ?_; rintro e wn ⟨rfl, hbn'⟩; have HBz := hide (HBz.out.trans (hbn'.mono HBz.out.size))
       clear hbn')
    | (go_at_call 124
       refine (HTy.out _).mono ?_; rintro e wn ⟨rfl, hbn'⟩; have HBz := hide (HBz.out.trans (hbn'.mono HBz.out.size))
       clear hbn')
    | fail)
 have HB2 := hide (HB.out.trans (HBz.out.mono HB.out.size)); clear HBz HS HTx HTy; go_wp2_with fail; go_ret; refine ⟨?_, HB2.out⟩; rw [HR.out]
 first | rfl | simp
theorem repM_any (wp : World) (l : List Pp.XMth) (v : Value) (w : World) (h : RowX w 9 (MthX wp) v l) (hn : l.length <= 100000) :
 Calls Tryz.prog 123 #[v, .func (.func 124) #[] #[]] w fun e w' => Hr.Yes (¬ (l.map (·.name)).Nodup) e /\ Below w.heap.size w w' := by
 have HR := hide h; obtain ⟨a, c, rfl, hcap⟩ := h.len; have HRk := hide (fun (k : Nat) (hk : k <= l.length) => h.take hk); clear h; obtain ⟨m, hm⟩ : ∃ q, q = l.length := ⟨_, rfl⟩; have HN := hide hm; rw [<- hm] at HR hn HRk hcap ⊢; clear hm; have hm1 : (m : Int) <= 100000 := by omega
 have HB0 := hide ((Below.refl w.heap.size w).alloc (Nat.le_refl _) (.cells #[.func (.func 124) #[] #[]] 179)); have HX0 := hide (heap_alloc_new w (.cells #[.func (.func 124) #[] #[]] 179)); have hmf : ∀ (fn : Fn) (first cap : Array Value) (w : World), (Instr.makeFunc fn first cap).run Tryz.prog w = .ok (.func fn first cap) w := fun _ _ _ _ => rfl
 go_enter Tryz.func123, Tryz.ntmps123; go_wp2_with fail; generalize w.alloc (.cells #[.func (.func 124) #[] #[]] 179) = wa at *
 go_loopw [9] (fun i wr => ∃ k : Nat, k <= m /\ i = .int .i64 k /\ Hid (Below wa.heap.size wa wr) /\ Hid (((l.take k).map (·.name)).Nodup)) (fun i _ => m - (intOf i).toNat)
 case atStart => exact ⟨0, Nat.zero_le _, rfl, hide (Below.refl _ _), hide (by simp)⟩
 case round =>
  obtain ⟨k, hk, rfl, HB, HNo⟩ := hrel; have HBw := hide (HB0.out.trans (HB.out.mono HB0.out.size)); by_cases hlt : k < m
  · obtain ⟨x, hx⟩ : ∃ x, l[k]? = some x := ⟨l[k]'(by rw [<- HN.out]; exact hlt), List.getElem?_eq_getElem _⟩
    obtain ⟨g, o, rfl, ys, wf, hc⟩ := Ow.row_at' HR.out hx; have hG := hide (hc wr HBw.out); have HY := hide (fun hp => Ly.nodup_not (f := (·.name)) hx hp); have HZ := hide (fun hp => Ly.nodup_step (f := (·.name)) HNo.out hx hp); have HWf := hide wf; clear hc hx HNo; obtain ⟨vp, vc, vk, rfl, x1, x2, x3, _⟩ := wf; obtain ⟨xa1, xd1, rfl, _⟩ := x1.len; obtain ⟨xa2, xd2, rfl, _⟩ := x2.len; obtain ⟨xa3, xd3, rfl, _⟩ := x3.len; clear x1 x2 x3; simp only [mthXL] at HWf; have r0 := hG.out 0 _ rfl; have r1 := hG.out 1 _ rfl; have r2 := hG.out 2 _ rfl; have r3 := hG.out 3 _ rfl; have r4 := hG.out 4 _ rfl; have r5 := hG.out 5 _ rfl; have r6 := hG.out 6 _ rfl; have r7 := hG.out 7 _ rfl; have r8 := hG.out 8 _ rfl; rw [Nat.add_zero] at r0
    try dsimp only at r0 r1 r2 r3 r4 r5 r6 r7 r8
    clear hG; have hlt' : (k : Int) < (m : Int) := by omega
    have hA : Below wr.heap.size wr (wr.alloc (.cells #[.string ⟨x.name.toArray⟩, .bool x.stat, .bool x.abst, .slice xa1 x.params.length xd1, .int .i64 x.ret.kind, .string ⟨x.ret.name.toArray⟩, .int .i64 x.locals, .slice xa2 x.code.length xd2, .slice xa3 x.catches.length xd3] 39)) := (Below.refl _ _).alloc (Nat.le_refl _) _; have HBA := hide (HB.out.trans (hA.mono HB.out.size)); have HBwA := hide (HBw.out.trans (hA.mono HBw.out.size)); have hbx := heap_alloc_new wr (.cells #[.string ⟨x.name.toArray⟩, .bool x.stat, .bool x.abst, .slice xa1 x.params.length xd1, .int .i64 x.ret.kind, .string ⟨x.ret.name.toArray⟩, .int .i64 x.locals, .slice xa2 x.code.length xd2, .slice xa3 x.catches.length xd3] 39); have HX1 := hide ((HBA.out.block _ (Ow.lt_of_blk HX0.out)).trans HX0.out)
    have HCf := hide (cfMt_any wp (l.take k) (.slice (some ⟨g, o, none⟩) k c) ⟨w.heap.size, 0, none⟩ ⟨wr.heap.size, 0, none⟩ (fun y => x.name == y.name) _ ((HRk.out k hk).on HBwA.out fun _ _ h => h) (by rw [List.length_take]; omega) fun y ys _ hp wx hb =>
     repM1_any wp x y _ ys w.heap.size wr.heap.size wx HWf.out hp (Nat.lt_of_lt_of_le (Ow.lt_of_blk HX1.out) hb.size) (Nat.lt_of_lt_of_le (Ow.lt_of_blk hbx) hb.size) ((cell_box ((hb.block _ (Ow.lt_of_blk HX1.out)).trans HX1.out) 0).trans rfl) (fun j u hu => (cell_box ((hb.block _ (Ow.lt_of_blk hbx)).trans hbx) j).trans (by simpa using hu)))
    have hkc : k <= c := Nat.le_trans hk hcap; have hkc' : (k : Int) <= (c : Int) := by omega
    generalize (l.take k).any (fun y => x.name == y.name) = px at HY HZ HCf; clear hbx hA HX1 HWf; go_wp2_with fail; refine HCf.out.mono ?_; rintro e w1 ⟨rfl, hb1⟩; have HB1 := hide (HBA.out.trans (hb1.mono HBA.out.size)); clear HCf hb1; cases px with
    | true =>
      have HY' := hide (HY.out rfl); clear HY HZ; go_wp2_with fail; go_ret; exact ⟨.yes HY'.out, HB0.out.trans (HB1.out.mono HB0.out.size)⟩
    | false =>
      have HZ' := hide (HZ.out rfl); clear HY HZ; go_wp2_with fail
      go_roundw
      case rel => exact ⟨k + 1, by omega, by go_num, HB1, HZ'⟩
      case measure => simp [intOf]; omega
  · have HZ : Hid ((l.map (·.name)).Nodup) := hide (by
     have := HNo.out
     rwa [List.take_of_length_le (by rw [<- HN.out]; omega)] at this)
    have hnl : ¬ ((k : Int) < (m : Int)) := by omega
    clear HNo; go_wp2_with fail; go_ret; exact ⟨.no fun h => h HZ.out, HBw.out⟩
namespace Hr
def BasX (c : Pp.XCls) (ys : List Value) : Prop := ys = clsXL c (.slice none 0 0) (.slice none 0 0) (.slice none 0 0) /\ (c.ifaces = [] /\ c.fields = [] /\ c.methods = []) /\ c.name.length <= maxLen /\ c.super.length <= maxLen
theorem row_nil {α : Type} {w : World} {sz : Nat} {P : α -> List Value -> Prop} : RowX w sz P (.slice none 0 0) ([] : List α) := ⟨none, 0, rfl, Nat.le_refl _, .inl rfl⟩
theorem BasX.x {c : Pp.XCls} {ys : List Value} (h : BasX c ys) (w : World) : ClsX w c ys := by
 obtain ⟨rfl, ⟨h1, h2, h3⟩, h4, h5⟩ := h; refine ⟨_, _, _, rfl, ?_, ?_, ?_, h4, h5, ?_, ?_, ?_⟩
 · rw [h1]; exact row_nil
 · rw [h2]; exact row_nil
 · rw [h3]; exact row_nil
 · rw [h1]; exact Nat.zero_le _
 · rw [h2]; exact Nat.zero_le _
 · rw [h3]; exact Nat.zero_le _
theorem BasX.o {c : Pp.XCls} {ys : List Value} (h : BasX c ys) (w : World) (base : Nat) : Ow.ClsO w base c ys := by
 obtain ⟨rfl, ⟨h1, h2, h3⟩, h4, h5⟩ := h; refine ⟨_, _, _, rfl, ?_, ?_, ?_, h4, h5, ?_, ?_, ?_⟩
 · rw [h1]; exact Ow.OwnX.nil _ _ _ _ _
 · rw [h2]; exact Ow.OwnX.nil _ _ _ _ _
 · rw [h3]; exact Ow.OwnX.nil _ _ _ _ _
 · rw [h1]; exact Nat.zero_le _
 · rw [h2]; exact Nat.zero_le _
 · rw [h3]; exact Nat.zero_le _
theorem shp_bas : Ow.Shp BasX 6 := by
 rintro x ys ⟨rfl, _⟩; exact ⟨rfl, by intro u hu; simp [clsXL] at hu; rcases hu with rfl | rfl | rfl | rfl <;> rfl⟩
theorem bas_plain {n s : Pp.Bs} (h1 : n.length <= maxLen) (h2 : s.length <= maxLen) : BasX (plain n s) [.string ⟨n.toArray⟩, .bool false, .string ⟨s.toArray⟩, .slice none 0 0, .slice none 0 0, .slice none 0 0] := ⟨rfl, ⟨rfl, rfl, rfl⟩, h1, h2⟩
theorem ix0 (w : World) : (Instr.index 137 (.agg #[.string ⟨#[78, 117, 108, 108, 69, 114, 114, 111, 114]⟩, .string ⟨#[82, 97, 110, 103, 101, 69, 114, 114, 111, 114]⟩, .string ⟨#[67, 97, 115, 116, 69, 114, 114, 111, 114]⟩, .string ⟨#[78, 117, 109, 69, 114, 114, 111, 114]⟩, .string ⟨#[83, 105, 122, 101, 69, 114, 114, 111, 114]⟩, .string ⟨#[68, 101, 112, 116, 104, 69, 114, 114, 111, 114]⟩]) (.int .i64 0)).run Tryz.prog w = .ok (.string ⟨#[78, 117, 108, 108, 69, 114, 114, 111, 114]⟩) w := by kernel_rfl
theorem ix1 (w : World) : (Instr.index 137 (.agg #[.string ⟨#[78, 117, 108, 108, 69, 114, 114, 111, 114]⟩, .string ⟨#[82, 97, 110, 103, 101, 69, 114, 114, 111, 114]⟩, .string ⟨#[67, 97, 115, 116, 69, 114, 114, 111, 114]⟩, .string ⟨#[78, 117, 109, 69, 114, 114, 111, 114]⟩, .string ⟨#[83, 105, 122, 101, 69, 114, 114, 111, 114]⟩, .string ⟨#[68, 101, 112, 116, 104, 69, 114, 114, 111, 114]⟩]) (.int .i64 1)).run Tryz.prog w = .ok (.string ⟨#[82, 97, 110, 103, 101, 69, 114, 114, 111, 114]⟩) w := by kernel_rfl
theorem ix2 (w : World) : (Instr.index 137 (.agg #[.string ⟨#[78, 117, 108, 108, 69, 114, 114, 111, 114]⟩, .string ⟨#[82, 97, 110, 103, 101, 69, 114, 114, 111, 114]⟩, .string ⟨#[67, 97, 115, 116, 69, 114, 114, 111, 114]⟩, .string ⟨#[78, 117, 109, 69, 114, 114, 111, 114]⟩, .string ⟨#[83, 105, 122, 101, 69, 114, 114, 111, 114]⟩, .string ⟨#[68, 101, 112, 116, 104, 69, 114, 114, 111, 114]⟩]) (.int .i64 2)).run Tryz.prog w = .ok (.string ⟨#[67, 97, 115, 116, 69, 114, 114, 111, 114]⟩) w := by kernel_rfl
theorem ix3 (w : World) : (Instr.index 137 (.agg #[.string ⟨#[78, 117, 108, 108, 69, 114, 114, 111, 114]⟩, .string ⟨#[82, 97, 110, 103, 101, 69, 114, 114, 111, 114]⟩, .string ⟨#[67, 97, 115, 116, 69, 114, 114, 111, 114]⟩, .string ⟨#[78, 117, 109, 69, 114, 114, 111, 114]⟩, .string ⟨#[83, 105, 122, 101, 69, 114, 114, 111, 114]⟩, .string ⟨#[68, 101, 112, 116, 104, 69, 114, 114, 111, 114]⟩]) (.int .i64 3)).run Tryz.prog w = .ok (.string ⟨#[78, 117, 109, 69, 114, 114, 111, 114]⟩) w := by kernel_rfl
theorem ix4 (w : World) : (Instr.index 137 (.agg #[.string ⟨#[78, 117, 108, 108, 69, 114, 114, 111, 114]⟩, .string ⟨#[82, 97, 110, 103, 101, 69, 114, 114, 111, 114]⟩, .string ⟨#[67, 97, 115, 116, 69, 114, 114, 111, 114]⟩, .string ⟨#[78, 117, 109, 69, 114, 114, 111, 114]⟩, .string ⟨#[83, 105, 122, 101, 69, 114, 114, 111, 114]⟩, .string ⟨#[68, 101, 112, 116, 104, 69, 114, 114, 111, 114]⟩]) (.int .i64 4)).run Tryz.prog w = .ok (.string ⟨#[83, 105, 122, 101, 69, 114, 114, 111, 114]⟩) w := by kernel_rfl
theorem ix5 (w : World) : (Instr.index 137 (.agg #[.string ⟨#[78, 117, 108, 108, 69, 114, 114, 111, 114]⟩, .string ⟨#[82, 97, 110, 103, 101, 69, 114, 114, 111, 114]⟩, .string ⟨#[67, 97, 115, 116, 69, 114, 114, 111, 114]⟩, .string ⟨#[78, 117, 109, 69, 114, 114, 111, 114]⟩, .string ⟨#[83, 105, 122, 101, 69, 114, 114, 111, 114]⟩, .string ⟨#[68, 101, 112, 116, 104, 69, 114, 114, 111, 114]⟩]) (.int .i64 5)).run Tryz.prog w = .ok (.string ⟨#[68, 101, 112, 116, 104, 69, 114, 114, 111, 114]⟩) w := by kernel_rfl
end Hr
theorem standing_any (w : World) :
 Calls Tryz.prog 51 #[] w fun e w' => ∃ v, e = .returned v /\ Ow.OwnX w' w.heap.size 59 6 Hr.BasX v Hr.base /\ Below w.heap.size w w' := by
 obtain ⟨j0, hj, hj0, hj1, hj2⟩ := Ow.info_of Ow.i_cls
 have HO0 : Hid (Ow.OwnX (w.alloc (.cells #[.string ⟨#[79, 98, 106, 101, 99, 116]⟩, .bool false, .string ⟨#[]⟩, .slice none 0 0, .slice none 0 0, .slice none 0 0, .string ⟨#[69, 114, 114, 111, 114]⟩, .bool false, .string ⟨#[79, 98, 106, 101, 99, 116]⟩, .slice none 0 0, .slice none 0 0, .slice none 0 0] 59)) w.heap.size 59 6 Hr.BasX (.slice (some ⟨w.heap.size, 0, none⟩) 2 2) (Hr.base.take 2)) := hide
  ⟨_, ⟨[.string ⟨#[79, 98, 106, 101, 99, 116]⟩, .bool false, .string ⟨#[]⟩, .slice none 0 0, .slice none 0 0, .slice none 0 0], _, rfl, Hr.bas_plain (by decide) (by decide), [.string ⟨#[69, 114, 114, 111, 114]⟩, .bool false, .string ⟨#[79, 98, 106, 101, 99, 116]⟩, .slice none 0 0, .slice none 0 0, .slice none 0 0], _, rfl, Hr.bas_plain (by decide) (by decide), rfl⟩, rfl, .inr ⟨w.heap.size, 2, _, rfl, Nat.le_refl _, heap_alloc_new w _, Nat.le_refl _, by decide, rfl, rfl⟩⟩
 go_enter Tryz.func51, Tryz.ntmps51; go_wp2_with fail
 go_loopw [1, 8] (fun v i wr => ∃ k : Nat, k <= 6 /\ i = .int .i64 k /\ Hid (Below w.heap.size w wr) /\ Hid (Ow.OwnX wr w.heap.size 59 6 Hr.BasX v (Hr.base.take (2 + k)))) (fun v i _ => 6 - (intOf i).toNat)
 case atStart => exact ⟨0, Nat.zero_le _, rfl, hide ((Below.refl _ _).alloc (Nat.le_refl _) _), HO0⟩
 case round =>
  obtain ⟨k, hk, rfl, HB, HO⟩ := hrel; clear HO0; obtain ⟨la, lc, rfl⟩ := HO.out.shape; by_cases hlt : k < 6
  · have hlen : Hid ((Hr.base.take (2 + k)).length = 2 + k) := hide (by rw [List.length_take]; have : Hr.base.length = 8 := rfl; omega)
    have HT : Hid (∀ c, Hr.base[2 + k]? = some c -> Hr.base.take (2 + (k + 1)) = Hr.base.take (2 + k) ++ [c]) := hide fun c hc => by rw [<- Nat.add_assoc, List.take_add_one, hc]; rfl
    have hcs : k = 0 \/ k = 1 \/ k = 2 \/ k = 3 \/ k = 4 \/ k = 5 := by omega
    generalize Hr.base.take (2 + k) = acc at *
    rcases hcs with rfl | rfl | rfl | rfl | rfl | rfl
    · have hix := Hr.ix0
      (try simp only [Int.cast_ofNat_Int, Int.natCast_one, Int.natCast_zero])
      go_wp2_with (at_builtin; refine Ow.wpList_app rfl (.tmp 11) (.tmp 14) 22 rfl Tryz.underlying22 hj hj0 hj1 hj2 (by decide) Hr.shp_bas rfl (HO.out.on ((Below.refl _ _).alloc (Nat.le_refl _) _) fun _ _ h => h) rfl (Hr.row_one (sz := 6) (heap_alloc_new wr _) (Hr.bas_plain (by decide) (by decide))) ?c1 (by decide) ?c2 ?_)
      case c1 => have := hlen.out; simp; omega
      case c2 => have := HB.out.size; simp; omega
      · intro v' w10 hown hgrow
        have HB10 := hide ((HB.out.alloc HB.out.size _).trans (Ow.bel_grown (HO.out.on ((Below.refl _ _).alloc (Nat.le_refl _) _) fun _ _ h => h) (by have := HB.out.size; simp; omega) hgrow))
        have HO10 : Hid (Ow.OwnX w10 w.heap.size 59 6 Hr.BasX v' (Hr.base.take (2 + (0 + 1)))) := hide (by rw [HT.out _ rfl]; exact hown)
        clear hown hgrow HO HB HT; go_wp2_with fail
        go_roundw
        case rel => first | exact ⟨_, by decide, by go_num, HB10, HO10⟩ | ((repeat apply Exists.intro); exact ⟨⟨_, by decide, by go_num, HB10, HO10⟩, rfl⟩)
        case measure => simp [intOf]
    · have hix := Hr.ix1
      (try simp only [Int.cast_ofNat_Int, Int.natCast_one, Int.natCast_zero])
      go_wp2_with (at_builtin; refine Ow.wpList_app rfl (.tmp 11) (.tmp 14) 22 rfl Tryz.underlying22 hj hj0 hj1 hj2 (by decide) Hr.shp_bas rfl (HO.out.on ((Below.refl _ _).alloc (Nat.le_refl _) _) fun _ _ h => h) rfl (Hr.row_one (sz := 6) (heap_alloc_new wr _) (Hr.bas_plain (by decide) (by decide))) ?c1 (by decide) ?c2 ?_)
      case c1 => have := hlen.out; simp; omega
      case c2 => have := HB.out.size; simp; omega
      · intro v' w10 hown hgrow
        have HB10 := hide ((HB.out.alloc HB.out.size _).trans (Ow.bel_grown (HO.out.on ((Below.refl _ _).alloc (Nat.le_refl _) _) fun _ _ h => h) (by have := HB.out.size; simp; omega) hgrow))
        have HO10 : Hid (Ow.OwnX w10 w.heap.size 59 6 Hr.BasX v' (Hr.base.take (2 + (1 + 1)))) := hide (by rw [HT.out _ rfl]; exact hown)
        clear hown hgrow HO HB HT; go_wp2_with fail
        go_roundw
        case rel => first | exact ⟨_, by decide, by go_num, HB10, HO10⟩ | ((repeat apply Exists.intro); exact ⟨⟨_, by decide, by go_num, HB10, HO10⟩, rfl⟩)
        case measure => simp [intOf]
    · have hix := Hr.ix2
      (try simp only [Int.cast_ofNat_Int, Int.natCast_one, Int.natCast_zero])
      go_wp2_with (at_builtin; refine Ow.wpList_app rfl (.tmp 11) (.tmp 14) 22 rfl Tryz.underlying22 hj hj0 hj1 hj2 (by decide) Hr.shp_bas rfl (HO.out.on ((Below.refl _ _).alloc (Nat.le_refl _) _) fun _ _ h => h) rfl (Hr.row_one (sz := 6) (heap_alloc_new wr _) (Hr.bas_plain (by decide) (by decide))) ?c1 (by decide) ?c2 ?_)
      case c1 => have := hlen.out; simp; omega
      case c2 => have := HB.out.size; simp; omega
      · intro v' w10 hown hgrow
        have HB10 := hide ((HB.out.alloc HB.out.size _).trans (Ow.bel_grown (HO.out.on ((Below.refl _ _).alloc (Nat.le_refl _) _) fun _ _ h => h) (by have := HB.out.size; simp; omega) hgrow))
        have HO10 : Hid (Ow.OwnX w10 w.heap.size 59 6 Hr.BasX v' (Hr.base.take (2 + (2 + 1)))) := hide (by rw [HT.out _ rfl]; exact hown)
        clear hown hgrow HO HB HT; go_wp2_with fail
        go_roundw
        case rel => first | exact ⟨_, by decide, by go_num, HB10, HO10⟩ | ((repeat apply Exists.intro); exact ⟨⟨_, by decide, by go_num, HB10, HO10⟩, rfl⟩)
        case measure => simp [intOf]
    · have hix := Hr.ix3
      (try simp only [Int.cast_ofNat_Int, Int.natCast_one, Int.natCast_zero])
      go_wp2_with (at_builtin; refine Ow.wpList_app rfl (.tmp 11) (.tmp 14) 22 rfl Tryz.underlying22 hj hj0 hj1 hj2 (by decide) Hr.shp_bas rfl (HO.out.on ((Below.refl _ _).alloc (Nat.le_refl _) _) fun _ _ h => h) rfl (Hr.row_one (sz := 6) (heap_alloc_new wr _) (Hr.bas_plain (by decide) (by decide))) ?c1 (by decide) ?c2 ?_)
      case c1 => have := hlen.out; simp; omega
      case c2 => have := HB.out.size; simp; omega
      · intro v' w10 hown hgrow
        have HB10 := hide ((HB.out.alloc HB.out.size _).trans (Ow.bel_grown (HO.out.on ((Below.refl _ _).alloc (Nat.le_refl _) _) fun _ _ h => h) (by have := HB.out.size; simp; omega) hgrow))
        have HO10 : Hid (Ow.OwnX w10 w.heap.size 59 6 Hr.BasX v' (Hr.base.take (2 + (3 + 1)))) := hide (by rw [HT.out _ rfl]; exact hown)
        clear hown hgrow HO HB HT; go_wp2_with fail
        go_roundw
        case rel => first | exact ⟨_, by decide, by go_num, HB10, HO10⟩ | ((repeat apply Exists.intro); exact ⟨⟨_, by decide, by go_num, HB10, HO10⟩, rfl⟩)
        case measure => simp [intOf]
    · have hix := Hr.ix4
      (try simp only [Int.cast_ofNat_Int, Int.natCast_one, Int.natCast_zero])
      go_wp2_with (at_builtin; refine Ow.wpList_app rfl (.tmp 11) (.tmp 14) 22 rfl Tryz.underlying22 hj hj0 hj1 hj2 (by decide) Hr.shp_bas rfl (HO.out.on ((Below.refl _ _).alloc (Nat.le_refl _) _) fun _ _ h => h) rfl (Hr.row_one (sz := 6) (heap_alloc_new wr _) (Hr.bas_plain (by decide) (by decide))) ?c1 (by decide) ?c2 ?_)
      case c1 => have := hlen.out; simp; omega
      case c2 => have := HB.out.size; simp; omega
      · intro v' w10 hown hgrow
        have HB10 := hide ((HB.out.alloc HB.out.size _).trans (Ow.bel_grown (HO.out.on ((Below.refl _ _).alloc (Nat.le_refl _) _) fun _ _ h => h) (by have := HB.out.size; simp; omega) hgrow))
        have HO10 : Hid (Ow.OwnX w10 w.heap.size 59 6 Hr.BasX v' (Hr.base.take (2 + (4 + 1)))) := hide (by rw [HT.out _ rfl]; exact hown)
        clear hown hgrow HO HB HT; go_wp2_with fail
        go_roundw
        case rel => first | exact ⟨_, by decide, by go_num, HB10, HO10⟩ | ((repeat apply Exists.intro); exact ⟨⟨_, by decide, by go_num, HB10, HO10⟩, rfl⟩)
        case measure => simp [intOf]
    · have hix := Hr.ix5
      (try simp only [Int.cast_ofNat_Int, Int.natCast_one, Int.natCast_zero])
      go_wp2_with (at_builtin; refine Ow.wpList_app rfl (.tmp 11) (.tmp 14) 22 rfl Tryz.underlying22 hj hj0 hj1 hj2 (by decide) Hr.shp_bas rfl (HO.out.on ((Below.refl _ _).alloc (Nat.le_refl _) _) fun _ _ h => h) rfl (Hr.row_one (sz := 6) (heap_alloc_new wr _) (Hr.bas_plain (by decide) (by decide))) ?c1 (by decide) ?c2 ?_)
      case c1 => have := hlen.out; simp; omega
      case c2 => have := HB.out.size; simp; omega
      · intro v' w10 hown hgrow
        have HB10 := hide ((HB.out.alloc HB.out.size _).trans (Ow.bel_grown (HO.out.on ((Below.refl _ _).alloc (Nat.le_refl _) _) fun _ _ h => h) (by have := HB.out.size; simp; omega) hgrow))
        have HO10 : Hid (Ow.OwnX w10 w.heap.size 59 6 Hr.BasX v' (Hr.base.take (2 + (5 + 1)))) := hide (by rw [HT.out _ rfl]; exact hown)
        clear hown hgrow HO HB HT; go_wp2_with fail
        go_roundw
        case rel => first | exact ⟨_, by decide, by go_num, HB10, HO10⟩ | ((repeat apply Exists.intro); exact ⟨⟨_, by decide, by go_num, HB10, HO10⟩, rfl⟩)
        case measure => simp [intOf]
  · have hk6 : k = 6 := by omega
    subst hk6; have HOe : Hid (Ow.OwnX wr w.heap.size 59 6 Hr.BasX (.slice la (List.take (2 + 6) Hr.base).length lc) Hr.base) := HO; generalize (List.take (2 + 6) Hr.base).length = nl at *
    go_wp2_with fail; go_ret; exact ⟨_, rfl, HOe.out, HB.out⟩
end Go.Proofs.YtjlappamkfjlkaaGreatDoor

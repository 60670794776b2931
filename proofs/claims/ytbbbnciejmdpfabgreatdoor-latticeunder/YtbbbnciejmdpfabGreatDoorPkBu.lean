/- What the laws of this seat lean on: 3 texts. -/
import Derived.Test.YtbbbnciejmdpfabGreatDoorPkBt
set_option maxRecDepth 100000
set_option maxHeartbeats 64000000
set_option linter.unusedVariables false
set_option linter.unusedSimpArgs false
namespace Go.Proofs.YtbbbnciejmdpfabGreatDoor
open Go.RowKit
namespace Lx
open Pp Hr
def rightH (cs : List XCls) (k : Int) (n : Bs) : Bool := if plainK k = true then n.isEmpty else if (k == 3 || k == 5) = true then (Hr.lookL cs n).isSome else false
theorem rightH_eq {cs : List XCls} (he : errL cs = 0) (k : Int) (n : Bs) : rightH cs k n = rightL (allL cs) k n := by
 unfold rightH rightL Hr.lookL; rw [if_pos he]
end Lx
theorem isRight_any (cs : List Pp.XCls) (v : Value) (t : Pp.Ty) (w : World) (ht : TabS w) (h : ProgX w v cs) (hl : Pp.Light cs) :
 Calls Tryz.prog 46 #[.agg #[v], .agg #[.int .i64 t.kind, .string ⟨t.name.toArray⟩]] w fun e w' => e = .returned (.bool (Lx.rightH cs t.kind t.name)) /\ Below w.heap.size w w' := by
 have HFd := hide (fun wx (hb : Below w.heap.size w wx) => Find_any cs v t.name wx (ht.below hb) (h.on hb) hl); obtain ⟨pa, pc, rfl, _⟩ := h.1.len; generalize cs.length = n at *
 obtain ⟨r, hr⟩ : ∃ r, r = Lx.rightH cs t.kind t.name := ⟨_, rfl⟩; have HR := hide hr; rw [<- hr]; obtain ⟨k, hk⟩ : ∃ k, k = t.kind := ⟨_, rfl⟩; rw [<- hk] at HR ⊢; clear hr hk h ht hl; obtain ⟨nb, hnb⟩ : ∃ y, y = (⟨t.name.toArray⟩ : ByteArray) := ⟨_, rfl⟩; have HNb := hide hnb; rw [<- hnb] at HFd ⊢; clear hnb; have HBa := hide ((Below.refl w.heap.size w).alloc (Nat.le_refl _) (.cells #[.slice pa n pc] 24)); have HXa := hide (heap_alloc_new w (.cells #[.slice pa n pc] 24)); go_enter Tryz.func46, Tryz.ntmps46
 have hstart : ∀ w0, w0 = w.alloc (.cells #[.slice pa n pc] 24) -> ∀ w1, w1 = w0.alloc (.cells #[.int .i64 k, .string nb] 36) -> Below w.heap.size w w1 /\ w0.heap.size = w.heap.size + 1 /\ w1.heap[w.heap.size]? = some (.cells #[.slice pa n pc] 24) /\ w1.heap[w.heap.size + 1]? = some (.cells #[.int .i64 k, .string nb] 36) := by
  rintro w0 rfl w1 rfl; have e : (w.alloc (.cells #[.slice pa n pc] 24)).heap.size = w.heap.size + 1 := by show (w.heap.push _).size = _; simp
  refine ⟨HBa.out.alloc HBa.out.size _, e, ?_, ?_⟩
  · have hA := (Below.refl (w.alloc (.cells #[.slice pa n pc] 24)).heap.size (w.alloc (.cells #[.slice pa n pc] 24))).alloc (Nat.le_refl _) (.cells #[.int .i64 k, .string nb] 36)
    exact (hA.block _ (by rw [e]; exact Nat.lt_succ_self _)).trans HXa.out
  · have := heap_alloc_new (w.alloc (.cells #[.slice pa n pc] 24)) (.cells #[.int .i64 k, .string nb] 36)
    rw [e] at this; exact this
 by_cases k2 : k = 2
 · subst k2
   by_cases hn : t.name = []
   · have HF : Hid (r = true) := hide (by rw [HR.out, hn]; rfl)
     have hnb : nb = ⟨#[]⟩ := by rw [HNb.out, hn]
     subst hnb; clear HNb; go_wp2_with fail; go_ret; exact ⟨by rw [HF.out]; rfl, (hstart _ rfl _ rfl).1⟩
   · have HF : Hid (r = false) := hide (by
      rw [HR.out]; unfold Lx.rightH; rw [if_pos (by decide)]
      simpa using hn)
     have hne := ba_ne (b := nb) (by rw [HNb.out]; exact fun h => hn (by have := congrArg (fun b : ByteArray => b.data.toList) h; simpa using this))
     go_wp2_with fail; go_ret; exact ⟨by rw [HF.out]; rfl, (hstart _ rfl _ rfl).1⟩
 by_cases k4 : k = 4
 · subst k4
   by_cases hn : t.name = []
   · have HF : Hid (r = true) := hide (by rw [HR.out, hn]; rfl)
     have hnb : nb = ⟨#[]⟩ := by rw [HNb.out, hn]
     subst hnb; clear HNb; go_wp2_with fail; go_ret; exact ⟨by rw [HF.out]; rfl, (hstart _ rfl _ rfl).1⟩
   · have HF : Hid (r = false) := hide (by
      rw [HR.out]; unfold Lx.rightH; rw [if_pos (by decide)]
      simpa using hn)
     have hne := ba_ne (b := nb) (by rw [HNb.out]; exact fun h => hn (by have := congrArg (fun b : ByteArray => b.data.toList) h; simpa using this))
     go_wp2_with fail; go_ret; exact ⟨by rw [HF.out]; rfl, (hstart _ rfl _ rfl).1⟩
 by_cases k6 : k = 6
 · subst k6
   by_cases hn : t.name = []
   · have HF : Hid (r = true) := hide (by rw [HR.out, hn]; rfl)
     have hnb : nb = ⟨#[]⟩ := by rw [HNb.out, hn]
     subst hnb; clear HNb; go_wp2_with fail; go_ret; exact ⟨by rw [HF.out]; rfl, (hstart _ rfl _ rfl).1⟩
   · have HF : Hid (r = false) := hide (by
      rw [HR.out]; unfold Lx.rightH; rw [if_pos (by decide)]
      simpa using hn)
     have hne := ba_ne (b := nb) (by rw [HNb.out]; exact fun h => hn (by have := congrArg (fun b : ByteArray => b.data.toList) h; simpa using this))
     go_wp2_with fail; go_ret; exact ⟨by rw [HF.out]; rfl, (hstart _ rfl _ rfl).1⟩
 by_cases k7 : k = 7
 · subst k7
   by_cases hn : t.name = []
   · have HF : Hid (r = true) := hide (by rw [HR.out, hn]; rfl)
     have hnb : nb = ⟨#[]⟩ := by rw [HNb.out, hn]
     subst hnb; clear HNb; go_wp2_with fail; go_ret; exact ⟨by rw [HF.out]; rfl, (hstart _ rfl _ rfl).1⟩
   · have HF : Hid (r = false) := hide (by
      rw [HR.out]; unfold Lx.rightH; rw [if_pos (by decide)]
      simpa using hn)
     have hne := ba_ne (b := nb) (by rw [HNb.out]; exact fun h => hn (by have := congrArg (fun b : ByteArray => b.data.toList) h; simpa using this))
     go_wp2_with fail; go_ret; exact ⟨by rw [HF.out]; rfl, (hstart _ rfl _ rfl).1⟩
 by_cases k3 : k = 3
 · subst k3
   have HF : Hid (r = (Hr.lookL cs t.name).isSome) := hide (by rw [HR.out]; unfold Lx.rightH; rw [if_neg (by decide), if_pos (by decide)])
   go_wp2_with fail; generalize hw0 : w.alloc (.cells #[.slice pa n pc] 24) = w0 at *
   generalize hw1 : w0.alloc (.cells #[.int .i64 3, .string nb] 36) = w1 at *
   obtain ⟨s1, s2, s3, s4⟩ := hstart w0 rfl w1 hw1.symm; have HB1 := hide s1; clear hstart s1 s2 s3 s4 hw0 hw1 HBa HXa; refine (HFd.out w1 HB1.out).mono ?_; rintro e w2 ⟨hfi, hb2⟩; have HB2 := hide (HB1.out.trans (hb2.mono HB1.out.size)); clear hb2 HFd; unfold Hr.FindIs at hfi; cases hp : Hr.lookL cs t.name with
   | none =>
     rw [hp] at hfi; have HF2 : Hid (r = false) := hide (by rw [HF.out, hp]; rfl)
     have hfi2 : e = .returned (.tuple #[.agg #[.string ⟨#[]⟩, .bool false, .string ⟨#[]⟩, .slice none 0 0, .slice none 0 0, .slice none 0 0], .bool false]) := hfi; subst hfi2; clear hp hfi; go_wp2_with fail; go_ret; exact ⟨by rw [HF2.out]; rfl, HB2.out.alloc HB2.out.size _⟩
   | some q =>
     rw [hp] at hfi; have HF2 : Hid (r = true) := hide (by rw [HF.out, hp]; rfl)
     obtain ⟨c, ys, _, rfl, hy⟩ := hfi; obtain ⟨ia', ic', fa', fc', ma', mc', rfl, _, _, _⟩ := cls_open hy.x; clear hp hy; go_wp2_with fail; go_ret; exact ⟨by rw [HF2.out]; rfl, HB2.out.alloc HB2.out.size _⟩
 by_cases k5 : k = 5
 · subst k5
   have HF : Hid (r = (Hr.lookL cs t.name).isSome) := hide (by rw [HR.out]; unfold Lx.rightH; rw [if_neg (by decide), if_pos (by decide)])
   go_wp2_with fail; generalize hw0 : w.alloc (.cells #[.slice pa n pc] 24) = w0 at *
   generalize hw1 : w0.alloc (.cells #[.int .i64 5, .string nb] 36) = w1 at *
   obtain ⟨s1, s2, s3, s4⟩ := hstart w0 rfl w1 hw1.symm; have HB1 := hide s1; clear hstart s1 s2 s3 s4 hw0 hw1 HBa HXa; refine (HFd.out w1 HB1.out).mono ?_; rintro e w2 ⟨hfi, hb2⟩; have HB2 := hide (HB1.out.trans (hb2.mono HB1.out.size)); clear hb2 HFd; unfold Hr.FindIs at hfi; cases hp : Hr.lookL cs t.name with
   | none =>
     rw [hp] at hfi; have HF2 : Hid (r = false) := hide (by rw [HF.out, hp]; rfl)
     have hfi2 : e = .returned (.tuple #[.agg #[.string ⟨#[]⟩, .bool false, .string ⟨#[]⟩, .slice none 0 0, .slice none 0 0, .slice none 0 0], .bool false]) := hfi; subst hfi2; clear hp hfi; go_wp2_with fail; go_ret; exact ⟨by rw [HF2.out]; rfl, HB2.out.alloc HB2.out.size _⟩
   | some q =>
     rw [hp] at hfi; have HF2 : Hid (r = true) := hide (by rw [HF.out, hp]; rfl)
     obtain ⟨c, ys, _, rfl, hy⟩ := hfi; obtain ⟨ia', ic', fa', fc', ma', mc', rfl, _, _, _⟩ := cls_open hy.x; clear hp hy; go_wp2_with fail; go_ret; exact ⟨by rw [HF2.out]; rfl, HB2.out.alloc HB2.out.size _⟩
 have HF : Hid (r = false) := hide (by rw [HR.out]; unfold Lx.rightH Lx.plainK; simp [k2, k3, k4, k5, k6, k7])
 have g2 : (k == 2) = false := by simpa using k2
 have g3 : (k == 3) = false := by simpa using k3
 have g4 : (k == 4) = false := by simpa using k4
 have g5 : (k == 5) = false := by simpa using k5
 have g6 : (k == 6) = false := by simpa using k6
 have g7 : (k == 7) = false := by simpa using k7
 go_wp2_with fail; go_ret; exact ⟨by rw [HF.out]; rfl, (hstart _ rfl _ rfl).1⟩
theorem ref_any (nb : ByteArray) (w : World) :
 Calls Tryz.prog 47 #[.string nb] w fun e w' => e = .returned (.agg #[.int .i64 3, .string nb]) /\ Below w.heap.size w w' := by
 have HB0 := hide (fun o => (Below.refl w.heap.size w).alloc (Nat.le_refl _) o); go_enter Tryz.func47, Tryz.ntmps47; go_wp2_with fail; refine bodyPost_ret (v := .agg #[.int .i64 3, .string nb]) (by simp [results, Tryz.results47, go_sem, *]) rfl ?_
 exact ⟨rfl, HB0.out _⟩
namespace Lx
open Pp Hr
def refB (k : Int) : Bool := k != 2 && k != 7
def fitsH (cs : List XCls) (ka kb : Int) (na nb : Bs) : Bool :=
 if (ka = kb /\ na = nb) \/ kb = 7 then true else if ka = 6 \/ (kb = 3 /\ nb = objN) then refB ka && refB kb else ka == 3 && (kb == 3 && underB cs na nb)
end Lx
theorem fits_any (cs : List Pp.XCls) (v : Value) (ka kb : Int) (na nb : Pp.Bs) (w : World) (ht : TabS w) (h : ProgX w v cs) :
 Calls Tryz.prog 20 #[.agg #[v], .agg #[.int .i64 ka, .string ⟨na.toArray⟩], .agg #[.int .i64 kb, .string ⟨nb.toArray⟩]] w fun e w' => e = .returned (.bool (Lx.fitsH cs ka kb na nb)) /\ Below w.heap.size w w' := by
 have HUn := hide (fun wx (hb : Below w.heap.size w wx) => Under_any cs v na nb wx (ht.below hb) (h.on hb)); obtain ⟨pa, pc, rfl, _⟩ := h.1.len; generalize cs.length = n at *
 obtain ⟨r, hr⟩ : ∃ r, r = Lx.fitsH cs ka kb na nb := ⟨_, rfl⟩; have HR := hide hr; rw [<- hr]; clear hr h ht; go_enter Tryz.func20, Tryz.ntmps20
 have hstart : ∃ w3, w3 = ((w.alloc (.cells #[.slice pa n pc] 24)).alloc (.cells #[.int .i64 ka, .string ⟨na.toArray⟩] 36)).alloc (.cells #[.int .i64 kb, .string ⟨nb.toArray⟩] 36) /\ Below w.heap.size w w3 /\ w3.heap[w.heap.size]? = some (.cells #[.slice pa n pc] 24) /\ w3.heap[w.heap.size + 1]? = some (.cells #[.int .i64 ka, .string ⟨na.toArray⟩] 36) /\ w3.heap[w.heap.size + 2]? = some (.cells #[.int .i64 kb, .string ⟨nb.toArray⟩] 36) := by
  have e1 : (w.alloc (.cells #[.slice pa n pc] 24)).heap.size = w.heap.size + 1 := by show (w.heap.push _).size = _; simp
  have e2 : ((w.alloc (.cells #[.slice pa n pc] 24)).alloc (.cells #[.int .i64 ka, .string ⟨na.toArray⟩] 36)).heap.size = w.heap.size + 2 := by show ((w.alloc (.cells #[.slice pa n pc] 24)).heap.push _).size = _; rw [Array.size_push, e1]
  have b1 := (Below.refl w.heap.size w).alloc (Nat.le_refl _) (.cells #[.slice pa n pc] 24); have b2 := (Below.refl (w.alloc (.cells #[.slice pa n pc] 24)).heap.size (w.alloc (.cells #[.slice pa n pc] 24))).alloc (Nat.le_refl _) (.cells #[.int .i64 ka, .string ⟨na.toArray⟩] 36); have b3 := (Below.refl ((w.alloc (.cells #[.slice pa n pc] 24)).alloc (.cells #[.int .i64 ka, .string ⟨na.toArray⟩] 36)).heap.size ((w.alloc (.cells #[.slice pa n pc] 24)).alloc (.cells #[.int .i64 ka, .string ⟨na.toArray⟩] 36))).alloc (Nat.le_refl _) (.cells #[.int .i64 kb, .string ⟨nb.toArray⟩] 36); have x1 := heap_alloc_new w (.cells #[.slice pa n pc] 24); have x2 := heap_alloc_new (w.alloc (.cells #[.slice pa n pc] 24)) (.cells #[.int .i64 ka, .string ⟨na.toArray⟩] 36); have x3 := heap_alloc_new ((w.alloc (.cells #[.slice pa n pc] 24)).alloc (.cells #[.int .i64 ka, .string ⟨na.toArray⟩] 36)) (.cells #[.int .i64 kb, .string ⟨nb.toArray⟩] 36); rw [e1] at x2; rw [e2] at x3; refine ⟨_, rfl, (b1.alloc b1.size _).alloc (b1.alloc b1.size _).size _, ?_, ?_, x3⟩
  · exact (b3.block _ (by rw [e2]; omega)).trans ((b2.block _ (by rw [e1]; omega)).trans x1)
  · exact (b3.block _ (by rw [e2]; omega)).trans x2
 obtain ⟨w3, hw3, hB3, hC3, hA3, hT3⟩ := hstart; have HB3 := hide hB3; have HC3 := hide hC3; have HA3 := hide hA3; have HT3 := hide hT3; clear hB3 hC3 hA3 hT3; by_cases hab : ka = kb /\ na = nb
 · have HF : Hid (r = true) := hide (by rw [HR.out]; unfold Lx.fitsH; exact if_pos (.inl hab))
   obtain ⟨rfl, rfl⟩ := hab; go_wp2_with fail; rw [<- hw3]; clear hw3; go_ret; exact ⟨by rw [HF.out]; rfl, HB3.out⟩
 by_cases ek : ka = kb
 · subst ek
   have en : ¬ na = nb := fun h => hab ⟨rfl, h⟩; have gn : (na == nb) = false := by simpa using en
   by_cases h7 : ka = 7
   · have HF : Hid (r = true) := hide (by rw [HR.out]; unfold Lx.fitsH; exact if_pos (.inr h7))
     have g7 : (ka == 7) = true := by simp [h7]
     clear h7 hab; go_wp2_with fail; rw [<- hw3]; clear hw3; go_ret; exact ⟨by rw [HF.out]; rfl, HB3.out⟩
   have g7 : (ka == 7) = false := by simpa using h7
   by_cases h6 : ka = 6
   · have HF : Hid (r = Lx.refB ka) := hide (by rw [HR.out]; unfold Lx.fitsH; rw [if_neg (fun h => h.elim hab h7), if_pos (.inl h6), h6]; simp [Lx.refB])
     have g6 : (ka == 6) = true := by simp [h6]
     have hk : (ka != 2 && ka != 7) = true := by rw [h6]; rfl
     clear h6 h7 hab; have HK := hide hk; clear hk; go_wp2_with fail; rw [<- hw3]; clear hw3; refine (isRef_any ka _ _).mono ?_; rintro e w5 ⟨rfl, hb5⟩; rw [HK.out]; have c0 := cell_box ((hb5.block _ (Ow.lt_of_blk HT3.out)).trans HT3.out) 0; have c1 := cell_box ((hb5.block _ (Ow.lt_of_blk HT3.out)).trans HT3.out) 1; have HB5 := hide (HB3.out.trans (hb5.mono HB3.out.size)); clear hb5; go_wp2_with fail; refine (isRef_any ka _ _).mono ?_; rintro e w6 ⟨rfl, hb6⟩; have HB6 := hide (HB5.out.trans (hb6.mono HB5.out.size)); go_wp2_with fail; go_ret; exact ⟨by rw [HF.out]; rfl, HB6.out⟩
   have g6 : (ka == 6) = false := by simpa using h6
   have HS := hide (fun wz (hb : Below w3.heap.size w3 wz) => show wz.cell? ⟨w.heap.size + 1 + 1, 0, none⟩ = some (.int .i64 ka) /\ wz.cell? ⟨w.heap.size + 1 + 1, 1, none⟩ = some (.string ⟨nb.toArray⟩) from
    ⟨cell_box ((hb.block _ (Ow.lt_of_blk HT3.out)).trans HT3.out) 0, cell_box ((hb.block _ (Ow.lt_of_blk HT3.out)).trans HT3.out) 1⟩)
   have HBz : Hid (Below w3.heap.size w3 w3.drew) := hide (Below.drew (Below.refl _ _)); by_cases hob : ka = 3 /\ nb = Hr.objN
   · have HF : Hid (r = (Lx.refB ka)) := hide (by rw [HR.out]; unfold Lx.fitsH; rw [if_neg (fun h => h.elim hab h7), if_pos (.inr hob), hob.1]; simp [Lx.refB])
     have HO1 := hide hob.1; have HO2 := hide hob.2; clear hob h6 h7 hab; go_wp2_with fail; rw [<- hw3]; clear hw3; rw [HO1.out, HO2.out] at HS; have HS2 := hide (fun wz (hb : Below w3.heap.size w3 wz) => show wz.cell? ⟨w.heap.size + 1 + 1, 0, none⟩ = some (.int .i64 3) /\ wz.cell? ⟨w.heap.size + 1 + 1, 1, none⟩ = some (.string ⟨#[79, 98, 106, 101, 99, 116]⟩) from HS.out wz hb)
     clear HS
     go_region_held3 (fun wz => wz.cell? ⟨w.heap.size + 1 + 1, 0, none⟩ = some (.int .i64 3) /\ wz.cell? ⟨w.heap.size + 1 + 1, 1, none⟩ = some (.string ⟨#[79, 98, 106, 101, 99, 116]⟩)) (exact HS2.out _ HBz.out)
      (first
        | (go_at_call 47
           with_reducible refine (ref_any _ _).mono ?_
           rintro e w5 ⟨rfl, hb5⟩; have HBz := hide (HBz.out.trans (hb5.mono HBz.out.size))
           clear hb5)
        | fail)
     all_goals
      have HB5 := hide (HB3.out.trans (HBz.out.mono HB3.out.size)); have d0 := cell_box ((HBz.out.block _ (Ow.lt_of_blk HA3.out)).trans HA3.out) 0; have d1 := cell_box ((HBz.out.block _ (Ow.lt_of_blk HA3.out)).trans HA3.out) 1; go_wp2_with fail; refine (isRef_any ka _ _).mono ?_; rintro e w6 ⟨rfl, hb6⟩; have HB6 := hide (HB5.out.trans (hb6.mono HB5.out.size)); have HBy := hide (HBz.out.trans (hb6.mono HBz.out.size)); clear d0 d1 hb6; obtain ⟨rk, hrk⟩ : ∃ y, y = (ka != 2 && ka != 7) := ⟨_, rfl⟩; rw [<- hrk]; have HF2 : Hid (r = rk) := hide (HF.out.trans hrk.symm); clear hrk; cases rk with
      | false =>
        go_wp2_with fail; go_ret; exact ⟨by rw [HF2.out]; rfl, HB6.out⟩
      | true =>
        obtain ⟨c0, c1⟩ := HS2.out w6 HBy.out; go_wp2_with fail; refine (isRef_any 3 _ _).mono ?_; rintro e w7 ⟨rfl, hb7⟩; have HB7 := hide (HB6.out.trans (hb7.mono HB6.out.size)); rw [show ((3 : Int) != 2 && (3 : Int) != 7) = true from rfl]
        clear hb7; go_wp2_with fail; go_ret; exact ⟨by rw [HF2.out]; rfl, HB7.out⟩
   have HF : Hid (r = (ka == 3 && (ka == 3 && Hr.underB cs na nb))) := hide (by rw [HR.out]; unfold Lx.fitsH; rw [if_neg (fun h => h.elim hab h7), if_neg (fun h => h.elim h6 hob)])
   by_cases h3 : ka = 3
   · have ho : ¬ nb = Hr.objN := fun h => hob ⟨h3, h⟩
     have ho2 : ¬ nb = [79, 98, 106, 101, 99, 116] := ho; have go : (nb == [79, 98, 106, 101, 99, 116]) = false := by simpa using ho2
     have H3 := hide h3; have gk3 : (ka == 3) = true := by simp [h3]
     have HFu : Hid (r = Hr.underB cs na nb) := hide (by rw [HF.out, gk3]; rfl)
     clear HF h3 ho ho2 hob h6 h7 hab; go_wp2_with fail; rw [<- hw3]; clear hw3
     go_region_held3 (fun wz => wz.cell? ⟨w.heap.size + 1 + 1, 0, none⟩ = some (.int .i64 ka) /\ wz.cell? ⟨w.heap.size + 1 + 1, 1, none⟩ = some (.string ⟨nb.toArray⟩)) (exact HS.out _ HBz.out)
      (first
        | (go_at_call 47
           with_reducible refine (ref_any _ _).mono ?_
           rintro e w5 ⟨rfl, hb5⟩; have HBz := hide (HBz.out.trans (hb5.mono HBz.out.size))
           clear hb5)
        | fail)
     all_goals
      have HB5 := hide (HB3.out.trans (HBz.out.mono HB3.out.size)); have d0 := cell_box ((HBz.out.block _ (Ow.lt_of_blk HA3.out)).trans HA3.out) 0; have d1 := cell_box ((HBz.out.block _ (Ow.lt_of_blk HA3.out)).trans HA3.out) 1; have p0 := cell_box ((HBz.out.block _ (Ow.lt_of_blk HC3.out)).trans HC3.out) 0; obtain ⟨c0, c1⟩ := HS.out w5 HBz.out; have HF2 : Hid (r = Hr.underB cs na nb) := hide (by rw [HFu.out])
      go_wp2_with fail; refine (HUn.out w5 HB5.out).mono ?_; rintro e w6 ⟨hy, hb6⟩; have HB6 := hide (HB5.out.trans (hb6.mono HB5.out.size)); clear hb6 d0 d1 p0 c0 c1; by_cases hu : Hr.underQ cs na nb
      · have HF3 : Hid (r = true) := hide (by rw [HF2.out]; exact (Hr.underB_iff _ _ _).2 hu)
        have he := hy.t hu; subst he; clear hy hu; go_wp2_with fail; go_ret; exact ⟨by rw [HF3.out]; rfl, HB6.out⟩
      · have HF3 : Hid (r = false) := hide (by
         rw [HF2.out]; cases hz : Hr.underB cs na nb with
         | false => rfl
         | true => exact absurd ((Hr.underB_iff _ _ _).1 hz) hu)
        have he := hy.f hu; subst he; clear hy hu; go_wp2_with fail; go_ret; exact ⟨by rw [HF3.out]; rfl, HB6.out⟩
   · have gk3 : (ka == 3) = false := by simpa using h3
     have HF2 : Hid (r = false) := hide (by rw [HF.out, gk3]; simp)
     clear HF h3 hob h6 h7 hab; go_wp2_with fail; rw [<- hw3]; clear hw3
     go_region_held3 (fun wz => wz.cell? ⟨w.heap.size + 1 + 1, 0, none⟩ = some (.int .i64 ka) /\ wz.cell? ⟨w.heap.size + 1 + 1, 1, none⟩ = some (.string ⟨nb.toArray⟩)) (exact HS.out _ HBz.out)
      (first
        | (go_at_call 47
           with_reducible refine (ref_any _ _).mono ?_
           rintro e w5 ⟨rfl, hb5⟩; have HBz := hide (HBz.out.trans (hb5.mono HBz.out.size))
           clear hb5)
        | fail)
     all_goals
      have HB5 := hide (HB3.out.trans (HBz.out.mono HB3.out.size)); have d0 := cell_box ((HBz.out.block _ (Ow.lt_of_blk HA3.out)).trans HA3.out) 0; have d1 := cell_box ((HBz.out.block _ (Ow.lt_of_blk HA3.out)).trans HA3.out) 1; have p0 := cell_box ((HBz.out.block _ (Ow.lt_of_blk HC3.out)).trans HC3.out) 0; obtain ⟨c0, c1⟩ := HS.out w5 HBz.out; cases ha : (ka == 3) with
      | true =>
        go_wp2_with fail; go_ret; exact ⟨by rw [HF2.out]; rfl, HB5.out⟩
      | false =>
        go_wp2_with fail; go_ret; exact ⟨by rw [HF2.out]; rfl, HB5.out⟩
 · have gk : (ka == kb) = false := by simpa using ek
   by_cases h7 : kb = 7
   · have HF : Hid (r = true) := hide (by rw [HR.out]; unfold Lx.fitsH; exact if_pos (.inr h7))
     have g7 : (kb == 7) = true := by simp [h7]
     clear h7 hab; go_wp2_with fail; rw [<- hw3]; clear hw3; go_ret; exact ⟨by rw [HF.out]; rfl, HB3.out⟩
   have g7 : (kb == 7) = false := by simpa using h7
   by_cases h6 : ka = 6
   · have HF : Hid (r = Lx.refB kb) := hide (by rw [HR.out]; unfold Lx.fitsH; rw [if_neg (fun h => h.elim hab h7), if_pos (.inl h6), h6]; simp [Lx.refB])
     have g6 : (ka == 6) = true := by simp [h6]
     have hk : (ka != 2 && ka != 7) = true := by rw [h6]; rfl
     clear h6 h7 hab; have HK := hide hk; clear hk; go_wp2_with fail; rw [<- hw3]; clear hw3; refine (isRef_any ka _ _).mono ?_; rintro e w5 ⟨rfl, hb5⟩; rw [HK.out]; have c0 := cell_box ((hb5.block _ (Ow.lt_of_blk HT3.out)).trans HT3.out) 0; have c1 := cell_box ((hb5.block _ (Ow.lt_of_blk HT3.out)).trans HT3.out) 1; have HB5 := hide (HB3.out.trans (hb5.mono HB3.out.size)); clear hb5; go_wp2_with fail; refine (isRef_any kb _ _).mono ?_; rintro e w6 ⟨rfl, hb6⟩; have HB6 := hide (HB5.out.trans (hb6.mono HB5.out.size)); go_wp2_with fail; go_ret; exact ⟨by rw [HF.out]; rfl, HB6.out⟩
   have g6 : (ka == 6) = false := by simpa using h6
   have HS := hide (fun wz (hb : Below w3.heap.size w3 wz) => show wz.cell? ⟨w.heap.size + 1 + 1, 0, none⟩ = some (.int .i64 kb) /\ wz.cell? ⟨w.heap.size + 1 + 1, 1, none⟩ = some (.string ⟨nb.toArray⟩) from
    ⟨cell_box ((hb.block _ (Ow.lt_of_blk HT3.out)).trans HT3.out) 0, cell_box ((hb.block _ (Ow.lt_of_blk HT3.out)).trans HT3.out) 1⟩)
   have HBz : Hid (Below w3.heap.size w3 w3.drew) := hide (Below.drew (Below.refl _ _)); by_cases hob : kb = 3 /\ nb = Hr.objN
   · have HF : Hid (r = (Lx.refB ka)) := hide (by rw [HR.out]; unfold Lx.fitsH; rw [if_neg (fun h => h.elim hab h7), if_pos (.inr hob), hob.1]; simp [Lx.refB])
     have HO1 := hide hob.1; have HO2 := hide hob.2; clear hob h6 h7 hab; go_wp2_with fail; rw [<- hw3]; clear hw3; rw [HO1.out, HO2.out] at HS; have HS2 := hide (fun wz (hb : Below w3.heap.size w3 wz) => show wz.cell? ⟨w.heap.size + 1 + 1, 0, none⟩ = some (.int .i64 3) /\ wz.cell? ⟨w.heap.size + 1 + 1, 1, none⟩ = some (.string ⟨#[79, 98, 106, 101, 99, 116]⟩) from HS.out wz hb)
     clear HS
     go_region_held3 (fun wz => wz.cell? ⟨w.heap.size + 1 + 1, 0, none⟩ = some (.int .i64 3) /\ wz.cell? ⟨w.heap.size + 1 + 1, 1, none⟩ = some (.string ⟨#[79, 98, 106, 101, 99, 116]⟩)) (exact HS2.out _ HBz.out)
      (first
        | (go_at_call 47
           with_reducible refine (ref_any _ _).mono ?_
           rintro e w5 ⟨rfl, hb5⟩; have HBz := hide (HBz.out.trans (hb5.mono HBz.out.size))
           clear hb5)
        | fail)
     all_goals
      have HB5 := hide (HB3.out.trans (HBz.out.mono HB3.out.size)); have d0 := cell_box ((HBz.out.block _ (Ow.lt_of_blk HA3.out)).trans HA3.out) 0; have d1 := cell_box ((HBz.out.block _ (Ow.lt_of_blk HA3.out)).trans HA3.out) 1; go_wp2_with fail; refine (isRef_any ka _ _).mono ?_; rintro e w6 ⟨rfl, hb6⟩; have HB6 := hide (HB5.out.trans (hb6.mono HB5.out.size)); have HBy := hide (HBz.out.trans (hb6.mono HBz.out.size)); clear d0 d1 hb6; obtain ⟨rk, hrk⟩ : ∃ y, y = (ka != 2 && ka != 7) := ⟨_, rfl⟩; rw [<- hrk]; have HF2 : Hid (r = rk) := hide (HF.out.trans hrk.symm); clear hrk; cases rk with
      | false =>
        go_wp2_with fail; go_ret; exact ⟨by rw [HF2.out]; rfl, HB6.out⟩
      | true =>
        obtain ⟨c0, c1⟩ := HS2.out w6 HBy.out; go_wp2_with fail; refine (isRef_any 3 _ _).mono ?_; rintro e w7 ⟨rfl, hb7⟩; have HB7 := hide (HB6.out.trans (hb7.mono HB6.out.size)); rw [show ((3 : Int) != 2 && (3 : Int) != 7) = true from rfl]
        clear hb7; go_wp2_with fail; go_ret; exact ⟨by rw [HF2.out]; rfl, HB7.out⟩
   have HF : Hid (r = (ka == 3 && (kb == 3 && Hr.underB cs na nb))) := hide (by rw [HR.out]; unfold Lx.fitsH; rw [if_neg (fun h => h.elim hab h7), if_neg (fun h => h.elim h6 hob)])
   by_cases h3 : kb = 3
   · have ho : ¬ nb = Hr.objN := fun h => hob ⟨h3, h⟩
     have ho2 : ¬ nb = [79, 98, 106, 101, 99, 116] := ho; have go : (nb == [79, 98, 106, 101, 99, 116]) = false := by simpa using ho2
     have H3 := hide h3; have gk3 : (kb == 3) = true := by simp [h3]
     have HFu : Hid (r = (ka == 3 && Hr.underB cs na nb)) := hide (by rw [HF.out, gk3]; rfl)
     clear HF h3 ho ho2 hob h6 h7 hab; go_wp2_with fail; rw [<- hw3]; clear hw3
     go_region_held3 (fun wz => wz.cell? ⟨w.heap.size + 1 + 1, 0, none⟩ = some (.int .i64 kb) /\ wz.cell? ⟨w.heap.size + 1 + 1, 1, none⟩ = some (.string ⟨nb.toArray⟩)) (exact HS.out _ HBz.out)
      (first
        | (go_at_call 47
           with_reducible refine (ref_any _ _).mono ?_
           rintro e w5 ⟨rfl, hb5⟩; have HBz := hide (HBz.out.trans (hb5.mono HBz.out.size))
           clear hb5)
        | fail)
     all_goals
      have HB5 := hide (HB3.out.trans (HBz.out.mono HB3.out.size)); have d0 := cell_box ((HBz.out.block _ (Ow.lt_of_blk HA3.out)).trans HA3.out) 0; have d1 := cell_box ((HBz.out.block _ (Ow.lt_of_blk HA3.out)).trans HA3.out) 1; have p0 := cell_box ((HBz.out.block _ (Ow.lt_of_blk HC3.out)).trans HC3.out) 0; obtain ⟨c0, c1⟩ := HS.out w5 HBz.out; cases ha : (ka == 3) with
      | true =>
        have HF2 : Hid (r = Hr.underB cs na nb) := hide (by rw [HFu.out, ha]; rfl)
        go_wp2_with fail; refine (HUn.out w5 HB5.out).mono ?_; rintro e w6 ⟨hy, hb6⟩; have HB6 := hide (HB5.out.trans (hb6.mono HB5.out.size)); clear hb6 d0 d1 p0 c0 c1; by_cases hu : Hr.underQ cs na nb
        · have HF3 : Hid (r = true) := hide (by rw [HF2.out]; exact (Hr.underB_iff _ _ _).2 hu)
          have he := hy.t hu; subst he; clear hy hu; go_wp2_with fail; go_ret; exact ⟨by rw [HF3.out]; rfl, HB6.out⟩
        · have HF3 : Hid (r = false) := hide (by
           rw [HF2.out]; cases hz : Hr.underB cs na nb with
           | false => rfl
           | true => exact absurd ((Hr.underB_iff _ _ _).1 hz) hu)
          have he := hy.f hu; subst he; clear hy hu; go_wp2_with fail; go_ret; exact ⟨by rw [HF3.out]; rfl, HB6.out⟩
      | false =>
        have HF2 : Hid (r = false) := hide (by rw [HFu.out, ha]; rfl)
        go_wp2_with fail; go_ret; exact ⟨by rw [HF2.out]; rfl, HB5.out⟩
   · have gk3 : (kb == 3) = false := by simpa using h3
     have HF2 : Hid (r = false) := hide (by rw [HF.out, gk3]; simp)
     clear HF h3 hob h6 h7 hab; go_wp2_with fail; rw [<- hw3]; clear hw3
     go_region_held3 (fun wz => wz.cell? ⟨w.heap.size + 1 + 1, 0, none⟩ = some (.int .i64 kb) /\ wz.cell? ⟨w.heap.size + 1 + 1, 1, none⟩ = some (.string ⟨nb.toArray⟩)) (exact HS.out _ HBz.out)
      (first
        | (go_at_call 47
           with_reducible refine (ref_any _ _).mono ?_
           rintro e w5 ⟨rfl, hb5⟩; have HBz := hide (HBz.out.trans (hb5.mono HBz.out.size))
           clear hb5)
        | fail)
     all_goals
      have HB5 := hide (HB3.out.trans (HBz.out.mono HB3.out.size)); have d0 := cell_box ((HBz.out.block _ (Ow.lt_of_blk HA3.out)).trans HA3.out) 0; have d1 := cell_box ((HBz.out.block _ (Ow.lt_of_blk HA3.out)).trans HA3.out) 1; have p0 := cell_box ((HBz.out.block _ (Ow.lt_of_blk HC3.out)).trans HC3.out) 0; obtain ⟨c0, c1⟩ := HS.out w5 HBz.out; cases ha : (ka == 3) with
      | true =>
        go_wp2_with fail; go_ret; exact ⟨by rw [HF2.out]; rfl, HB5.out⟩
      | false =>
        go_wp2_with fail; go_ret; exact ⟨by rw [HF2.out]; rfl, HB5.out⟩
namespace Lx
open Pp Hr
theorem right_ref {l : List XCls} {k : Int} {n : Bs} (h : rightL l k n = true) (h3 : k = 3) : ∃ q, placeL l n = some q := by
 subst h3; unfold rightL at h; rw [if_neg (by decide), if_pos (by decide)] at h
 exact Option.isSome_iff_exists.1 h
end Lx
end Go.Proofs.YtbbbnciejmdpfabGreatDoor

/- What the laws of this seat lean on: 3 texts. -/
import Derived.Test.YtbbbnciejmdpfabGreatDoorPkAe
import Derived.Test.YtbbbnciejmdpfabGreatDoorPkBu
import Derived.Test.YtbbbnciejmdpfabGreatDoorPkAu
import Derived.Test.YtbbbnciejmdpfabGreatDoorPkBf
set_option maxRecDepth 100000
set_option maxHeartbeats 64000000
set_option linter.unusedVariables false
set_option linter.unusedSimpArgs false
namespace Go.Proofs.YtbbbnciejmdpfabGreatDoor
open Go.RowKit
namespace Lx
open Pp Hr
theorem place_hd (l : List XCls) (n : Bs) : placeL (l.map hd) n = placeL l n := by
 induction l with
 | nil => rfl
 | cons c l ih => rw [List.map_cons]; unfold placeL; rw [ih]; rfl
theorem at_hd (l : List XCls) (k : Nat) : (l.map hd)[k]? = (l[k]?).map hd := by rw [List.getElem?_map]
theorem up_hd (l : List XCls) (b : Bool) (n : Bs) : upL (l.map hd) b n = upL l b n := by
 unfold upL; rw [place_hd]; cases placeL l n with
 | none => rfl
 | some k =>
   simp only [at_hd]; cases l[k]? with
   | none => rfl
   | some c => rfl
theorem super_hd (c : XCls) : superL (hd c) = superL c := rfl
theorem sup_hd (l : List XCls) (c : XCls) : supL (l.map hd) (hd c) = supL l c := by
 unfold supL; rw [super_hd]; cases superL c with
 | none => rfl
 | some n => simp only [up_hd]
theorem ifs_hd (l : List XCls) (ns : List Bs) : ifsL (l.map hd) ns = ifsL l ns := by
 induction ns with
 | nil => rfl
 | cons n ns ih => unfold ifsL; rw [up_hd, ih]
theorem ups_hd (l : List XCls) (c : XCls) : upsL (l.map hd) (hd c) = upsL l c := by
 unfold upsL; rw [sup_hd]; have : (hd c).ifaces = c.ifaces := rfl; rw [this]; cases supL l c with
 | none => rfl
 | some a => simp only [ifs_hd]
theorem grow_hd (l m : List XCls) : growL (l.map hd) (m.map hd) = growL l m := by
 induction m with
 | nil => rfl
 | cons c m ih => rw [List.map_cons]; unfold growL; rw [ups_hd, ih]
theorem all_hd (cs : List XCls) : allL (cs.map hd) = (allL cs).map hd := by
 unfold allL; rw [List.map_append]
 rfl
theorem one_hd (l : List XCls) : oneB (l.map hd) = oneB l := by
 unfold oneB; rw [List.length_map]; apply congrArg (fun f => (List.range l.length).all f)
 funext j
 rw [at_hd]; cases l[j]? with
 | none => rfl
 | some c => show (placeL (l.map hd) (hd c).name == some j) = _; rw [place_hd]; rfl
theorem cls_hd {c : XCls} (h : clsB c = true) : clsB (hd c) = true := by
 unfold clsB at h ⊢; simp only [Bool.and_eq_true] at h ⊢; exact ⟨h.1, h.2.1, h.2.2.1, rfl, rfl⟩
theorem prog_hd {cs : List XCls} (h : progB cs = true) : progB (cs.map hd) = true := by
 unfold progB at h ⊢; rw [eachB_iff] at h ⊢; rw [List.length_map]; refine ⟨h.1, fun x hx => ?_⟩; obtain ⟨c, hc, rfl⟩ := List.mem_map.1 hx; exact cls_hd (h.2 c hc)
theorem err_hd {cs : List XCls} (h : errL cs = 0) : errL (cs.map hd) = 0 := by
 unfold errL at h ⊢; rw [all_hd, grow_hd, one_hd]
 split at h
 · rename_i hp
   rw [if_pos (prog_hd hp)]; exact h
 · cases h
theorem look_hd {cs : List XCls} (h : errL cs = 0) (n : Bs) : Hr.lookL (cs.map hd) n = Hr.lookL cs n := by
 rw [lookL_yes (err_hd h), lookL_yes h, all_hd, place_hd]
theorem superQ_hd {cs : List XCls} (h : errL cs = 0) (n : Bs) : superQ (cs.map hd) n = superQ cs n := by
 unfold superQ; rw [look_hd h]; cases Hr.lookL cs n with
 | none => rfl
 | some k =>
   simp only [all_hd, at_hd]; cases (allL cs)[k]? with
   | none => rfl
   | some c => rfl
theorem underQ_hd {cs : List XCls} (h : errL cs = 0) (a b : Bs) : underQ (cs.map hd) a b ↔ underQ cs a b := by
 unfold underQ; rw [all_hd, grow_hd, place_hd, place_hd]; simp only [err_hd h, h]
theorem underB_hd {cs : List XCls} (h : errL cs = 0) (a b : Bs) : underB (cs.map hd) a b = underB cs a b := by
 rw [Bool.eq_iff_iff, underB_iff, underB_iff]; exact underQ_hd h a b
theorem rightH_hd {cs : List XCls} (h : errL cs = 0) (k : Int) (n : Bs) : rightH (cs.map hd) k n = rightL (allL cs) k n := by
 rw [rightH_eq (err_hd h)]; unfold rightL; rw [all_hd, place_hd]
theorem fitsH_hd {cs : List XCls} (h : errL cs = 0) (ka kb : Int) (na nb : Bs) : fitsH (cs.map hd) ka kb na nb = fitsH cs ka kb na nb := by
 unfold fitsH; simp only [underB_hd h]
theorem light_hd {cs : List XCls} (h : Light cs) : Light (cs.map hd) := by
 refine ⟨by rw [List.length_map]; exact h.1, fun x hx => ?_⟩
 obtain ⟨c, hc, rfl⟩ := List.mem_map.1 hx; have := h.2 c hc; exact ⟨⟨Nat.zero_le _, Nat.zero_le _, this.1.2.2⟩, (by intro f hf; cases hf), this.2.2.1, (by intro m hm; cases hm)⟩
end Lx
namespace Lx
open Pp Hr
def climbN (cs : List XCls) (b : Bs) : Nat -> Bs -> Bs
 | 0, _ => objN
 | f + 1, a => if underB cs b a = true then a else match superQ cs a with
   | none => objN
   | some s => climbN cs b f s
def chainN (cs : List XCls) : Nat -> Bs -> Nat
 | 0, _ => 0
 | f + 1, a => match superQ cs a with
   | none => 0
   | some s => chainN cs f s + 1
def tallN (cs : List XCls) (a : Bs) : Nat := chainN cs (allL cs).length a
def meetN (cs : List XCls) (a b : Bs) : Bs := if underB cs a b = true then b else climbN cs b (allL cs).length a
def Known (cs : List XCls) (a : Bs) : Prop := ∃ (p : Nat) (c : XCls), (allL cs)[p]? = some c /\ c.name = a
theorem known_place {cs : List XCls} {a : Bs} {k : Nat} (h : placeL (allL cs) a = some k) : Known cs a := by
 obtain ⟨c, h1, h2, _⟩ := placeL_lt h; exact ⟨k, c, h1, h2⟩
theorem known_super {cs : List XCls} (he : errL cs = 0) {a s : Bs} (h : Known cs a) (hs : superQ cs a = some s) : Known cs s := by
 obtain ⟨p, c, hc, rfl⟩ := h; obtain ⟨_, ho, up, hg, hr⟩ := err_zero he; rw [superQ_at he hc] at hs; obtain ⟨q, d, h1, _⟩ := super_step hg hc hs; exact known_place h1
theorem stab_at {cs : List XCls} {up : List (List Nat)} (he : errL cs = 0) (hg : growL (allL cs) (allL cs) = some up) (hr : ¬ Ring up) (b : Bs) (p0 : Nat) :
 ∀ (f p : Nat) (vs : List Nat) (c : XCls), (allL cs)[p]? = some c -> Climb cs up p0 p vs -> (allL cs).length <= f + vs.length -> climbN cs b (f + 1) c.name = climbN cs b f c.name /\ chainN cs (f + 1) c.name = chainN cs f c.name
 | 0, p, vs, c, hc, hC, hl => by have := hC.few; omega
 | f + 1, p, vs, c, hc, hC, hl => by
   have hsq := superQ_at he hc; cases hs : superL c with
   | none =>
     rw [hs] at hsq; constructor
     · unfold climbN; rw [hsq]
     · unfold chainN; rw [hsq]
   | some s =>
     rw [hs] at hsq; obtain ⟨q, d, h1, h2, rfl, h4, h5, h6⟩ := super_step hg hc hs; obtain ⟨e1, e2⟩ := stab_at he hg hr b p0 f q (p :: vs) d h2 (hC.step hr h5 h6) (by rw [List.length_cons]; omega)
     constructor
     · rw [show climbN cs b (f + 1 + 1) c.name = if underB cs b c.name = true then c.name else match superQ cs c.name with | none => objN | some s => climbN cs b (f + 1) s from rfl,
        show climbN cs b (f + 1) c.name = if underB cs b c.name = true then c.name else match superQ cs c.name with | none => objN | some s => climbN cs b f s from rfl, hsq]
       simp only [e1]
     · rw [show chainN cs (f + 1 + 1) c.name = match superQ cs c.name with | none => 0 | some s => chainN cs (f + 1) s + 1 from rfl,
        show chainN cs (f + 1) c.name = match superQ cs c.name with | none => 0 | some s => chainN cs f s + 1 from rfl, hsq]
       simp only [e2]
theorem stab {cs : List XCls} (he : errL cs = 0) {a : Bs} (h : Known cs a) (b : Bs) : climbN cs b ((allL cs).length + 1) a = climbN cs b (allL cs).length a /\ chainN cs ((allL cs).length + 1) a = chainN cs (allL cs).length a := by
 obtain ⟨p, c, hc, rfl⟩ := h; obtain ⟨_, ho, up, hg, hr⟩ := err_zero he
 have hp : p < (allL cs).length := by
  rcases Nat.lt_or_ge p (allL cs).length with h | h
  · exact h
  · rw [List.getElem?_eq_none h] at hc; cases hc
 exact stab_at he hg hr b p _ p [] c hc (Climb.start hp) (by simp)
theorem tall_step {cs : List XCls} (he : errL cs = 0) {a s : Bs} (h : Known cs a) (hs : superQ cs a = some s) : tallN cs s < tallN cs a := by
 have h1 := (stab he h []).2; rw [show chainN cs ((allL cs).length + 1) a = match superQ cs a with | none => 0 | some s => chainN cs (allL cs).length s + 1 from rfl, hs] at h1
 simp only at h1; unfold tallN; omega
theorem climb_step {cs : List XCls} (he : errL cs = 0) {a s : Bs} (h : Known cs a) (b : Bs) (hn : ¬ underB cs b a = true) (hs : superQ cs a = some s) : climbN cs b (allL cs).length a = climbN cs b (allL cs).length s := by
 rw [<- (stab he h b).1, show climbN cs b ((allL cs).length + 1) a = if underB cs b a = true then a else match superQ cs a with | none => objN | some s => climbN cs b (allL cs).length s from rfl, if_neg hn, hs]
theorem climb_end {cs : List XCls} (he : errL cs = 0) {a : Bs} (h : Known cs a) (b : Bs) (hn : ¬ underB cs b a = true) (hs : superQ cs a = none) : climbN cs b (allL cs).length a = objN := by
 rw [<- (stab he h b).1, show climbN cs b ((allL cs).length + 1) a = if underB cs b a = true then a else match superQ cs a with | none => objN | some s => climbN cs b (allL cs).length s from rfl, if_neg hn, hs]
theorem climb_here {cs : List XCls} (he : errL cs = 0) {a : Bs} (h : Known cs a) (b : Bs) (hy : underB cs b a = true) : climbN cs b (allL cs).length a = a := by
 rw [<- (stab he h b).1, show climbN cs b ((allL cs).length + 1) a = if underB cs b a = true then a else match superQ cs a with | none => objN | some s => climbN cs b (allL cs).length s from rfl, if_pos hy]
end Lx
namespace Lx
def bytesOf : Value -> Pp.Bs
 | .string s => s.data.toList
 | _ => []
end Lx
theorem meetByName_any (cs : List Pp.XCls) (v : Value) (a b : Pp.Bs) (w : World) (ht : TabS w) (h : ProgX w v cs) (he : Hr.errL cs = 0) (hk : Lx.Known cs a) :
 Calls Tryz.prog 65 #[.agg #[v], .string ⟨a.toArray⟩, .string ⟨b.toArray⟩] w fun e w' => e = .returned (.string ⟨(Lx.meetN cs a b).toArray⟩) /\ Below w.heap.size w w' := by
 have HUn := hide (fun x y wx (hb : Below w.heap.size w wx) => Under_any cs v x y wx (ht.below hb) (h.on hb)); have HSu := hide (fun x wx (hb : Below w.heap.size w wx) => Super_any cs v x wx (ht.below hb) (h.on hb)); have HE := hide he; have HK := hide hk; obtain ⟨pa, pc, rfl, _⟩ := h.1.len; generalize cs.length = n at *
 obtain ⟨r, hr⟩ : ∃ r, r = Lx.meetN cs a b := ⟨_, rfl⟩; have HR := hide hr; rw [<- hr]; clear hr h ht he hk; have hx0 := hide (heap_alloc_new w (.cells #[.slice pa n pc] 24)); have HB0 := hide ((Below.refl w.heap.size w).alloc (Nat.le_refl _) (.cells #[.slice pa n pc] 24)); go_enter Tryz.func65, Tryz.ntmps65; go_wp2_with fail; generalize w.alloc (.cells #[.slice pa n pc] 24) = w0 at *
 refine (HUn.out a b w0 HB0.out).mono ?_; rintro e w1 ⟨hy, hb1⟩; have HB1 := hide (HB0.out.trans (hb1.mono HB0.out.size)); have HT1 := hide ((hb1.block _ (Ow.lt_of_blk hx0.out)).trans hx0.out); clear hb1 hx0 HB0; by_cases hu : Hr.underQ cs a b
 · have HF : Hid (r = b) := hide (by rw [HR.out]; unfold Lx.meetN; exact if_pos ((Hr.underB_iff _ _ _).2 hu))
   have hq := hy.t hu; subst hq; clear hy hu; go_wp2_with fail; go_ret; exact ⟨by rw [HF.out]; rfl, HB1.out⟩
 · have HF : Hid (Lx.climbN cs b (Hr.allL cs).length a = r) := hide (by rw [HR.out]; unfold Lx.meetN; exact (if_neg (fun h => hu ((Hr.underB_iff _ _ _).1 h))).symm)
   have hq := hy.f hu; subst hq; clear hy hu; go_wp2_with fail
   go_loopw [1] (fun i wr => ∃ x : Pp.Bs, i = .string ⟨x.toArray⟩ /\ Hid (Lx.Known cs x) /\ Hid (Lx.climbN cs b (Hr.allL cs).length x = r) /\ Hid (Below w.heap.size w wr) /\ Hid (wr.heap[w.heap.size]? = some (.cells #[.slice pa n pc] 24 (0, 0)))) (fun i _ => Lx.tallN cs (Lx.bytesOf i))
   case atStart => exact ⟨a, rfl, HK, HF, HB1, HT1⟩
   case round =>
    obtain ⟨x, rfl, HKx, HFx, HBr, HTr⟩ := hrel; clear HF HK HB1 HT1; have c0 := cell_box HTr.out 0; go_wp2_with fail; refine (HUn.out b x wr HBr.out).mono ?_; rintro e w2 ⟨hy, hb2⟩; have HB2 := hide (HBr.out.trans (hb2.mono HBr.out.size)); have HT2 := hide ((hb2.block _ (Ow.lt_of_blk HTr.out)).trans HTr.out); clear hb2 HBr HTr c0; by_cases hu : Hr.underQ cs b x
    · have HG : Hid (x = r) := hide (by rw [<- HFx.out]; exact (Lx.climb_here HE.out HKx.out b ((Hr.underB_iff _ _ _).2 hu)).symm)
      have hq := hy.t hu; subst hq; clear hy hu; go_wp2_with fail; go_ret; exact ⟨by rw [<- HG.out]; rfl, HB2.out⟩
    · have HN := hide (fun h => hu ((Hr.underB_iff _ _ _).1 h))
      have hq := hy.f hu; subst hq; clear hy hu; have c0 := cell_box HT2.out 0; go_wp2_with fail; refine (HSu.out x w2 HB2.out).mono ?_; rintro e w3 ⟨rfl, hb3⟩; have HB3 := hide (HB2.out.trans (hb3.mono HB2.out.size)); have HT3 := hide ((hb3.block _ (Ow.lt_of_blk HT2.out)).trans HT2.out); clear hb3 HB2 HT2 c0; cases hs : Hr.superQ cs x with
      | none =>
        have HG : Hid (r = Hr.objN) := hide (by rw [<- HFx.out]; exact Lx.climb_end HE.out HKx.out b HN.out hs)
        clear hs; simp only [Hr.pairS]; go_wp2_with fail; go_ret; exact ⟨by rw [HG.out]; rfl, HB3.out⟩
      | some s =>
        have HKs := hide (Lx.known_super HE.out HKx.out hs); have HG := hide ((Lx.climb_step HE.out HKx.out b HN.out hs).symm.trans HFx.out); have HM := hide (Lx.tall_step HE.out HKx.out hs); clear hs; simp only [Hr.pairS]; go_wp2_with fail
        go_roundw
        case rel => exact ⟨s, rfl, HKs, HG, HB3, HT3⟩
        case measure => exact HM.out
end Go.Proofs.YtbbbnciejmdpfabGreatDoor

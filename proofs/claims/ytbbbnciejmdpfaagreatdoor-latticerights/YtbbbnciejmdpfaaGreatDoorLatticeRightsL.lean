/- LatticeRights: the walk. -/
import Derived.Test.YtbbbnciejmdpfaaGreatDoorPkAz
import Derived.Test.YtbbbnciejmdpfaaGreatDoorPkBa
set_option maxRecDepth 100000
set_option maxHeartbeats 64000000
set_option linter.unusedVariables false
set_option linter.unusedSimpArgs false
namespace Go.Proofs.YtbbbnciejmdpfaaGreatDoor
open Go.RowKit
theorem latticeRights_walk (v : Value) (cs : List Pp.XCls) (a : Int) (nm : Pp.Bs) (w : World) (ht : TabS w) (h : ProgX w v cs) (hnm : nm.length <= maxLen) :
 Calls Tryz.prog 8 #[.agg #[v], .int .i64 a, .string ⟨nm.toArray⟩] w fun e w' => e = .returned (.bool true) /\ Below w.heap.size w w' := by
 have HP := hide (fun wx (hb : Below w.heap.size w wx) => h.on hb); have HT := hide (fun wx (hb : Below w.heap.size w wx) => ht.below hb); obtain ⟨pa, pc, rfl, _⟩ := h.1.len; obtain ⟨n, hn'⟩ : ∃ n, n = cs.length := ⟨_, rfl⟩; have HN := hide hn'; rw [<- hn'] at HP ⊢; clear h ht hn'; have hx0 := hide (heap_alloc_new w (.cells #[.slice pa n pc] 24)); have HB0 := hide ((Below.refl w.heap.size w).alloc (Nat.le_refl _) (.cells #[.slice pa n pc] 24)); go_enter Tryz.func8, Tryz.ntmps8; go_wp2_with fail; generalize w.alloc (.cells #[.slice pa n pc] 24) = w0 at *
 have HC : Hid (∀ wx, Below w0.heap.size w0 wx -> wx.cell? ⟨w.heap.size, 0, none⟩ = some (.slice pa n pc)) := hide fun wx hb => cell_box ((hb.block _ (Ow.lt_of_blk hx0.out)).trans hx0.out) 0; have HW : Hid (∀ wx, Below w0.heap.size w0 wx -> Below w.heap.size w wx) := hide fun wx hb => HB0.out.trans (hb.mono HB0.out.size); clear hx0; refine (Heavy_any cs _ w0 (HP.out w0 HB0.out)).mono ?_; rintro e w1 ⟨⟨b, rfl, hlb⟩, hb1⟩; have HB1 := hide hb1; clear hb1; cases b with
 | true =>
   go_wp2_with fail; go_ret; exact ⟨rfl, HW.out _ HB1.out⟩
 | false =>
   have HLt := hide (hlb rfl); have d0 := HC.out w1 HB1.out; clear hlb; have hzs : (⟨nm.toArray⟩ : ByteArray).size = nm.length := by simp [ByteArray.size]
   by_cases hlen : 60 < nm.length
   · have hli : (60 : Int) < ((⟨nm.toArray⟩ : ByteArray).size : Int) := by rw [hzs]; omega
     clear hzs; go_wp2_with fail; go_ret; exact ⟨rfl, HW.out _ HB1.out⟩
   have hli : ¬ (60 : Int) < ((⟨nm.toArray⟩ : ByteArray).size : Int) := by rw [hzs]; omega
   clear hzs hlen; go_wp2_with fail; refine (RLayout_any cs _ w1 (HP.out _ (HW.out _ HB1.out)) HLt.out).mono ?_; rintro e w2 ⟨rfl, hb2⟩; have HB2 := hide (HB1.out.trans (hb2.mono HB1.out.size)); clear hb2 d0; have d0 := HC.out w2 HB2.out; by_cases he : Ly.layE cs ≠ 0
   · generalize Ly.layE cs = er at *
     have he' : (er != 0) = true := by simpa using he
     go_wp2_with fail; go_ret; exact ⟨rfl, HW.out _ HB2.out⟩
   have HE := hide (show Ly.layE cs = 0 by simpa using he)
   have HEr := hide (Lx.lay_err HE.out); rw [HE.out]; clear he; go_wp2_with fail; refine (All_any cs _ w2 (HP.out _ (HW.out _ HB2.out)) HLt.out).mono ?_; rintro e w3 ⟨vl, rfl, hol, hb3⟩; have HB3 := hide (HB2.out.trans (hb3.mono HB2.out.size)); clear hb3 d0; have d0 := HC.out w3 HB3.out; have HRw := hide (hol.row Ow.shp_cls fun _ _ h => h.x); obtain ⟨la, lc, rfl⟩ := hol.shape; clear hol; have hml : (Hr.allL cs).length = 8 + n := by rw [Hr.all_len, HN.out]; rfl
   have hn14 : n <= 14 := by rw [HN.out]; exact HLt.out.1
   rw [hml] at HRw ⊢; obtain ⟨m, hm⟩ : ∃ m, m = 8 + n := ⟨_, rfl⟩; rw [<- hm] at HRw ⊢; have HM : Hid (m = (Hr.allL cs).length) := hide (by rw [hm, hml])
   have hm2 : 8 <= m := by omega
   have hm3 : m <= 22 := by omega
   have HAt : Hid (∀ q : Nat, q < m -> ∃ (x : Pp.XCls) (g o : Nat) (v1 v2 v3 : Value), (Hr.allL cs)[q]? = some x /\ la = some ⟨g, o, none⟩ /\ (∃ a n c, v1 = .slice a n c) /\ (∃ a n c, v2 = .slice a n c) /\ (∃ a n c, v3 = .slice a n c) /\ ∀ wx, Below w3.heap.size w3 wx -> wx.cell? ⟨g, o + q * 6, none⟩ = some (.string ⟨x.name.toArray⟩) /\ wx.cell? ⟨g, o + q * 6 + 1, none⟩ = some (.bool x.iface) /\ wx.cell? ⟨g, o + q * 6 + 2, none⟩ = some (.string ⟨x.super.toArray⟩) /\ wx.cell? ⟨g, o + q * 6 + 3, none⟩ = some v1 /\ wx.cell? ⟨g, o + q * 6 + 4, none⟩ = some v2 /\ wx.cell? ⟨g, o + q * 6 + 5, none⟩ = some v3) := hide (by
    intro q hq; have hx : (Hr.allL cs)[q]? = some ((Hr.allL cs)[q]'(by rw [<- HM.out]; exact hq)) := List.getElem?_eq_getElem _
    obtain ⟨g, o, e1, ys, hys, hc⟩ := Hr.row_at HRw.out hx; obtain ⟨va1, vd1, va2, vd2, va3, vd3, rfl⟩ := Hr.at_c hys
    exact ⟨_, g, o, _, _, _, hx, e1, ⟨_, _, _, rfl⟩, ⟨_, _, _, rfl⟩, ⟨_, _, _, rfl⟩, fun wx hb => ⟨hc wx hb 0 _ rfl, hc wx hb 1 _ rfl, hc wx hb 2 _ rfl, hc wx hb 3 _ rfl, hc wx hb 4 _ rfl, hc wx hb 5 _ rfl⟩⟩)
   have hmi : (m : Int) <= 22 := by omega
   have hm0 : ¬ m = 0 := by omega
   have hmz : ((m : Int) == 0) = false := by simp; omega
   have hwm : IntKind.u64.wrap (m : Int) = (m : Int) := by rw [IntKind.wrap_u64]; omega
   clear hml hm; obtain ⟨qa, hqa, hwa⟩ := mod_at a m (by omega) (by omega)
   obtain ⟨xa, ga, oa, va1, va2, va3, hxa, rfl, ⟨_, _, _, rfl⟩, ⟨_, _, _, rfl⟩, ⟨_, _, _, rfl⟩, hca⟩ := HAt.out qa hqa; have HXa := hide hca; have HKa : Hid (Lx.Known cs xa.name) := hide ⟨_, _, hxa, rfl⟩; have HIa := hide hxa; have hqa' : (qa : Int) < (m : Int) := by omega
   have hwa' : IntKind.i64.wrap ((IntKind.u64.wrap a).tmod (m : Int)) = (qa : Int) := by rw [IntWalk.i64_left]; exact hwa
   clear hca hxa; clear HAt HRw; obtain ⟨p0, p1, p2, p3, p4, p5⟩ := HXa.out w3 (Below.refl _ _); have HLx := hide (Lx.known_len HLt.out HKa.out); have HNm := hide hnm; generalize xa.name = lx at *
   go_wp2_with fail; refine (Find_any cs _ nm w3 (HT.out _ (HW.out _ HB3.out)) (HP.out _ (HW.out _ HB3.out)) HLt.out).mono ?_; rintro e w4 ⟨hfi, hb4⟩; obtain ⟨s0, b1, s2, a3, n3, c3, a4, n4, c4, a5, n5, c5, rfl⟩ := find_shape hfi; have HB4 := hide (HB3.out.trans (hb4.mono HB3.out.size)); have HB5 := hide (HB4.out.alloc HB4.out.size (.cells #[.string s0, .bool b1, .string s2, .slice a3 n3 c3, .slice a4 n4 c4, .slice a5 n5 c5] 42)); clear hfi hb4 p0 p1 p2 p3 p4 p5 d0 hqa hqa' hwa hwa' hmi hm0 hmz hwm hnm hm2 hm3 HXa HIa; obtain ⟨kn, hkn⟩ : ∃ kn, kn = (Hr.lookL cs nm).isSome := ⟨_, rfl⟩; have HKn := hide hkn; rw [<- hkn]; clear hkn
   have HR1 : Hid (∀ wz, Below w0.heap.size w0 wz -> Calls Tryz.prog 12 #[.agg #[.slice pa n pc], .agg #[.int .i64 3, .string ⟨lx.toArray⟩]] wz fun e w' => e = .returned (.bool true) /\ Below wz.heap.size wz w') := hide (by
    intro wz hb; have h := LRight_any cs _ ⟨3, lx⟩ wz (HT.out _ (HW.out _ hb)) (HP.out _ (HW.out _ hb)) HLt.out HLx.out; rw [Lx.look_right HE.out, show Lx.rightT cs ⟨3, lx⟩ = true from Lx.right_known3 HEr.out HKa.out] at h
    exact h)
   have HR2 : Hid (∀ wz, Below w0.heap.size w0 wz -> Calls Tryz.prog 12 #[.agg #[.slice pa n pc], .agg #[.int .i64 5, .string ⟨lx.toArray⟩]] wz fun e w' => e = .returned (.bool true) /\ Below wz.heap.size wz w') := hide (by
    intro wz hb; have h := LRight_any cs _ ⟨5, lx⟩ wz (HT.out _ (HW.out _ hb)) (HP.out _ (HW.out _ hb)) HLt.out HLx.out; rw [Lx.look_right HE.out, show Lx.rightT cs ⟨5, lx⟩ = true from Lx.right_rows HEr.out HKa.out] at h
    exact h)
   have HR3 : Hid (∀ wz, Below w0.heap.size w0 wz -> Calls Tryz.prog 12 #[.agg #[.slice pa n pc], .agg #[.int .i64 3, .string ⟨nm.toArray⟩]] wz fun e w' => e = .returned (.bool kn) /\ Below wz.heap.size wz w') := hide (by
    intro wz hb; have h := LRight_any cs _ ⟨3, nm⟩ wz (HT.out _ (HW.out _ hb)) (HP.out _ (HW.out _ hb)) HLt.out HNm.out; rw [Lx.look_right HE.out, show Lx.rightT cs ⟨3, nm⟩ = kn from (Lx.right_find HEr.out nm).trans HKn.out.symm] at h
    exact h)
   have HR4 : Hid (∀ wz, Below w0.heap.size w0 wz -> Calls Tryz.prog 12 #[.agg #[.slice pa n pc], .agg #[.int .i64 2, .string ⟨lx.toArray⟩]] wz fun e w' => e = .returned (.bool false) /\ Below wz.heap.size wz w') := hide (by
    intro wz hb; have h := LRight_any cs _ ⟨2, lx⟩ wz (HT.out _ (HW.out _ hb)) (HP.out _ (HW.out _ hb)) HLt.out HLx.out; rw [Lx.look_right HE.out, show Lx.rightT cs ⟨2, lx⟩ = false from Lx.right_int HEr.out HKa.out] at h
    exact h)
   have HR5 : Hid (∀ wz, Below w0.heap.size w0 wz -> Calls Tryz.prog 12 #[.agg #[.slice pa n pc], .agg #[.int .i64 1, .string ⟨#[]⟩]] wz fun e w' => e = .returned (.bool false) /\ Below wz.heap.size wz w') := hide (by
    intro wz hb; have h := LRight_any cs _ ⟨1, []⟩ wz (HT.out _ (HW.out _ hb)) (HP.out _ (HW.out _ hb)) HLt.out (by decide)
    rw [Lx.look_right HE.out, show Lx.rightT cs ⟨1, []⟩ = false from rfl] at h
    exact h)
   have HR6 : Hid (∀ wz, Below w0.heap.size w0 wz -> Calls Tryz.prog 12 #[.agg #[.slice pa n pc], .agg #[.int .i64 7, .string ⟨#[]⟩]] wz fun e w' => e = .returned (.bool true) /\ Below wz.heap.size wz w') := hide (by
    intro wz hb; have h := LRight_any cs _ ⟨7, []⟩ wz (HT.out _ (HW.out _ hb)) (HP.out _ (HW.out _ hb)) HLt.out (by decide)
    rw [Lx.look_right HE.out, show Lx.rightT cs ⟨7, []⟩ = true from rfl] at h
    exact h)
   have HWk : Hid (∀ wz, Below w0.heap.size w0 wz -> Calls Tryz.prog 14 #[] wz fun e w' => e = .returned (.bool true) /\ Below wz.heap.size wz w') := hide fun wz hb => LWakes_any wz (HT.out _ (HW.out _ hb)); clear HT HP HKa HKn HLx HNm; go_wp2_with fail; generalize w4.alloc (.cells #[.string s0, .bool b1, .string s2, .slice a3 n3 c3, .slice a4 n4 c4, .slice a5 n5 c5] 42) = wA at *
   have HS := hide (fun wz (hb : Below wA.heap.size wA wz) => HC.out wz (HB5.out.trans (hb.mono HB5.out.size))); have HBz : Hid (Below wA.heap.size wA wA.drew) := hide (Below.drew (Below.refl _ _)); clear HC
   go_region_held3 (fun wz => wz.cell? ⟨w.heap.size, 0, none⟩ = some (.slice pa n pc)) (exact HS.out _ HBz.out)
    (first
    | (go_at_call 19
       with_reducible refine (lref_any _ _).mono ?_
       rintro e w6 ⟨rfl, hb6⟩; have HBz := hide (HBz.out.trans (hb6.mono HBz.out.size))
       clear hb6)
    | (go_at_call 12
       with_reducible refine (HR1.out _ (HB5.out.trans (HBz.out.mono HB5.out.size))).mono ?_
       rintro e w6 ⟨rfl, hb6⟩; have HBz := hide (HBz.out.trans (hb6.mono HBz.out.size))
       clear hb6)
    | (go_at_call 12
       with_reducible refine (HR2.out _ (HB5.out.trans (HBz.out.mono HB5.out.size))).mono ?_
       rintro e w6 ⟨rfl, hb6⟩; have HBz := hide (HBz.out.trans (hb6.mono HBz.out.size))
       clear hb6)
    | (go_at_call 12
       with_reducible refine (HR3.out _ (HB5.out.trans (HBz.out.mono HB5.out.size))).mono ?_
       rintro e w6 ⟨rfl, hb6⟩; have HBz := hide (HBz.out.trans (hb6.mono HBz.out.size))
       clear hb6)
    | (go_at_call 12
       with_reducible refine (HR4.out _ (HB5.out.trans (HBz.out.mono HB5.out.size))).mono ?_
       rintro e w6 ⟨rfl, hb6⟩; have HBz := hide (HBz.out.trans (hb6.mono HBz.out.size))
       clear hb6)
    | (go_at_call 12
       with_reducible refine (HR5.out _ (HB5.out.trans (HBz.out.mono HB5.out.size))).mono ?_
       rintro e w6 ⟨rfl, hb6⟩; have HBz := hide (HBz.out.trans (hb6.mono HBz.out.size))
       clear hb6)
    | (go_at_call 12
       with_reducible refine (HR6.out _ (HB5.out.trans (HBz.out.mono HB5.out.size))).mono ?_
       rintro e w6 ⟨rfl, hb6⟩; have HBz := hide (HBz.out.trans (hb6.mono HBz.out.size))
       clear hb6)
    | (go_at_call 14
       with_reducible refine (HWk.out _ (HB5.out.trans (HBz.out.mono HB5.out.size))).mono ?_
       rintro e w6 ⟨rfl, hb6⟩; have HBz := hide (HBz.out.trans (hb6.mono HBz.out.size))
       clear hb6)
    | fail)
   all_goals
    go_wp2_with fail; go_ret; exact ⟨rfl, HW.out _ (HB5.out.trans (HBz.out.mono HB5.out.size))⟩
end Go.Proofs.YtbbbnciejmdpfaaGreatDoor

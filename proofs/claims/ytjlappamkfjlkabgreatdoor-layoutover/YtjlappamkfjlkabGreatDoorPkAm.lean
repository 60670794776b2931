/- What the laws of this seat lean on: 4 texts. -/
import Derived.Test.YtjlappamkfjlkabGreatDoorPkAe
import Derived.Test.YtjlappamkfjlkabGreatDoorPkAj
import Derived.Test.YtjlappamkfjlkabGreatDoorPkAl
import Derived.Test.YtjlappamkfjlkabGreatDoorPkAf
import Derived.Laws.CopyOwn
import Derived.OwnWalk
set_option maxRecDepth 100000
set_option maxHeartbeats 64000000
set_option linter.unusedVariables false
set_option linter.unusedSimpArgs false
namespace Go.Proofs.YtjlappamkfjlkabGreatDoor
open Go.RowKit
namespace Ly
def nmF (l : List Pp.XCls) (bs : List Nat) (b : Nat) : Pp.Bs := (clP l (bs.idxOf b)).name
def placeB (l : List Pp.XCls) (bs : List Nat) (n : Pp.Bs) : Option Nat := (Hr.placeL l n).map (bs.getD · 0)
def ifsB (l : List Pp.XCls) (bs : List Nat) (ys : List Pp.Bs) : List Nat := ys.filterMap (placeB l bs)
theorem getD_at {bs : List Nat} {j : Nat} (h : j < bs.length) : bs[j]? = some (bs.getD j 0) := by simp [List.getD, List.getElem?_eq_getElem h]
theorem nmF_at {l : List Pp.XCls} {bs : List Nat} (hn : bs.Nodup) {j : Nat} (h : j < bs.length) {c : Pp.XCls} (hc : l[j]? = some c) : nmF l bs (bs.getD j 0) = c.name := by
 unfold nmF; rw [idx_get hn h, clP_at hc]
theorem find_place {l : List Pp.XCls} {bs : List Nat} (hn : bs.Nodup) (hl : bs.length = l.length) (n : Pp.Bs) : (bs.find? fun b => nmF l bs b == n) = placeB l bs n := by
 unfold placeB
 have key : ∀ j, j < bs.length -> ∃ c, l[j]? = some c /\ nmF l bs (bs.getD j 0) = c.name := fun j hj => by
  have := at_of (l := l) (k := j) (by omega)
  exact ⟨_, this, nmF_at hn hj this⟩
 cases hp : Hr.placeL l n with
 | none =>
   show _ = none; rw [List.find?_eq_none]; intro b hb; obtain ⟨j, hj⟩ := List.getElem?_of_mem hb; have hlt := (List.getElem?_eq_some_iff.1 hj).1; obtain ⟨c, h1, h2⟩ := key j hlt; have h3 := getD_at hlt; rw [hj] at h3; injection h3 with h3; rw [h3, h2]; have := Hr.placeL_none.1 hp j c h1
   simpa using this
 | some k =>
   obtain ⟨c, h1, h2, h3⟩ := Hr.placeL_lt hp; have hlt : k < bs.length := by rw [hl]; exact (List.getElem?_eq_some_iff.1 h1).1
   show _ = some (bs.getD k 0); refine find_take (k := k) ?_ (getD_at hlt) (by rw [nmF_at hn hlt h1, h2]; simp)
   rw [List.any_eq_false]; intro b hb; obtain ⟨j, hj⟩ := List.getElem?_of_mem hb; rw [List.getElem?_take] at hj
   split at hj
   · rename_i hjk
     have hlt2 := (List.getElem?_eq_some_iff.1 hj).1; obtain ⟨d, e1, e2⟩ := key j hlt2; have e3 := getD_at hlt2; rw [hj] at e3; injection e3 with e3; rw [e3, e2]; have := h3 j d hjk e1
     simpa using this
   · cases hj
theorem ifsB_snoc {l : List Pp.XCls} {bs : List Nat} {ys : List Pp.Bs} {k : Nat} {y : Pp.Bs} {b : Nat} (h : ys[k]? = some y) (hb : placeB l bs y = some b) : ifsB l bs (ys.take (k + 1)) = ifsB l bs (ys.take k) ++ [b] := by
 unfold ifsB; rw [List.take_add_one, h, Option.toList_some, List.filterMap_append]; simp [hb]
theorem ifsB_len (l : List Pp.XCls) (bs : List Nat) (ys : List Pp.Bs) : (ifsB l bs ys).length <= ys.length := List.length_filterMap_le _ _
end Ly
theorem Ow.OwnX.stbT {α : Type} {P : α -> List Value -> Prop} {S : Nat -> Prop} {w : World} {base e sz : Nat} {v : Value} {l : List α} (h : Ow.OwnX w base e sz P v l) (hs : Ow.Shp P sz) (hS : ∀ k, S k -> ∃ c t, w.heap[k]? = some (.cells c t (0, 0)) /\ t ≠ e) : Stb S w sz P v l := by
 obtain ⟨nw, hfl, hown⟩ := h; have hr : RowX w sz P v l := Ow.OwnX.row ⟨nw, hfl, hown⟩ hs fun _ _ h => h; obtain ⟨a, c, rfl, hc, hr⟩ := hr; refine ⟨a, c, rfl, hc, ?_⟩
 rcases hr with rfl | ⟨b, o, rfl, hlt, hr⟩
 · exact .inl rfl
 · refine .inr ⟨b, o, rfl, hlt, fun hb => ?_, hr⟩
   obtain ⟨cc, t, h1, h2⟩ := hS b hb
   obtain ⟨_, c3, h3⟩ := own_lt (P := P) (sz := sz) (l := l) ⟨nw, hfl, hown⟩ (k := b) (by
    rcases hown.2 with ⟨h, _⟩ | ⟨g, cap, cur, e1, _⟩
    · cases h
    · injection e1 with e1
      injection e1 with e1; injection e1 with e1; subst e1
      rfl)
   rw [h1] at h3; injection h3 with h3; injection h3 with _ h3; exact h2 h3
def tabA (c : Pp.XCls) (vi vf vm : Value) (p : Option Addr) (vs : Value) : Array Value :=
 #[.string ⟨c.name.toArray⟩, .bool c.iface, .string ⟨c.super.toArray⟩, vi, vf, vm, .pointer p, vs, .int .u32 0, .int .i32 0, .int .u32 0, .slice none 0 0, .slice none 0 0, .slice none 0 0]
def ptrO (s : Option Nat) : Option Addr := s.map fun b => ⟨b, 0, none⟩
def Tab0 (w0 wr : World) (c : Pp.XCls) (b : Nat) : Prop := ∃ ia ic fa fc ma mc, wr.heap[b]? = some (.cells (tabA c (.slice ia c.ifaces.length ic) (.slice fa c.fields.length fc) (.slice ma c.methods.length mc) none (.slice none 0 0)) 84 (0, 0)) /\
 ClsX w0 c [.string ⟨c.name.toArray⟩, .bool c.iface, .string ⟨c.super.toArray⟩, .slice ia c.ifaces.length ic, .slice fa c.fields.length fc, .slice ma c.methods.length mc]
def Tab1 (w0 wr : World) (S : Nat -> Prop) (c : Pp.XCls) (s : Option Nat) (is : List Nat) (b : Nat) : Prop := ∃ ia ic fa fc ma mc vs, wr.heap[b]? = some (.cells (tabA c (.slice ia c.ifaces.length ic) (.slice fa c.fields.length fc) (.slice ma c.methods.length mc) (ptrO s) vs) 84 (0, 0)) /\
 ClsX w0 c [.string ⟨c.name.toArray⟩, .bool c.iface, .string ⟨c.super.toArray⟩, .slice ia c.ifaces.length ic, .slice fa c.fields.length fc, .slice ma c.methods.length mc] /\ Stb S wr 1 PtrX vs is
theorem Tab0.on {w0 w w' : World} {c : Pp.XCls} {b : Nat} (h : Tab0 w0 w c b) (hb : w'.heap[b]? = w.heap[b]?) : Tab0 w0 w' c b := by
 obtain ⟨ia, ic, fa, fc, ma, mc, h1, h2⟩ := h; exact ⟨ia, ic, fa, fc, ma, mc, hb.trans h1, h2⟩
theorem Tab1.on {w0 w w' : World} {S T : Nat -> Prop} {c : Pp.XCls} {s : Option Nat} {is : List Nat} {b : Nat} (h : Tab1 w0 w S c s is b) (hf : Fx T w w') (hT : ∀ k, T k -> S k) (hb : ¬ T b) : Tab1 w0 w' S c s is b := by
 obtain ⟨ia, ic, fa, fc, ma, mc, vs, h1, h2, h3⟩ := h; exact ⟨ia, ic, fa, fc, ma, mc, vs, (hf.blk b (Ow.lt_of_blk h1) hb).trans h1, h2, h3.on (hf.mono fun k _ hk => hT k hk) fun _ _ h => h⟩
theorem Tab0.tab {w0 wr : World} {c : Pp.XCls} {b : Nat} (h : Tab0 w0 wr c b) : (∃ cs, wr.heap[b]? = some (.cells cs 84 (0, 0))) /\ wr.cell? ⟨b, 0, none⟩ = some (.string ⟨c.name.toArray⟩) := by
 obtain ⟨ia, ic, fa, fc, ma, mc, h1, h2⟩ := h; exact ⟨⟨_, h1⟩, cell_box h1 0⟩
theorem Tab1.tab {w0 wr : World} {S : Nat -> Prop} {c : Pp.XCls} {s : Option Nat} {is : List Nat} {b : Nat} (h : Tab1 w0 wr S c s is b) : (∃ cs, wr.heap[b]? = some (.cells cs 84 (0, 0))) /\ wr.cell? ⟨b, 0, none⟩ = some (.string ⟨c.name.toArray⟩) := by
 obtain ⟨ia, ic, fa, fc, ma, mc, vs, h1, h2, _⟩ := h; exact ⟨⟨_, h1⟩, cell_box h1 0⟩
structure Tabs0 (w0 wr : World) (l : List Pp.XCls) (bs : List Nat) : Prop where
 nodup : bs.Nodup
 low : ∀ b ∈ bs, w0.heap.size <= b
 tab : ∀ (j : Nat) (c : Pp.XCls) (b : Nat), l[j]? = some c -> bs[j]? = some b -> Tab0 w0 wr c b
theorem Tabs0.more {w0 wr w' : World} {l : List Pp.XCls} {bs : List Nat} {k b : Nat} {c : Pp.XCls} (h : Tabs0 w0 wr l bs) (hk : bs.length = k) (hkl : k <= l.length) (hc : l[k]? = some c) (hw : w0.heap.size <= wr.heap.size) (hb : wr.heap.size <= b) (ht : Tab0 w0 w' c b) (hs : ∀ q ∈ bs, w'.heap[q]? = wr.heap[q]?) : Tabs0 w0 w' l (bs ++ [b]) := by
 have hlt : ∀ q ∈ bs, q < wr.heap.size := fun q hq => by
  obtain ⟨j, hj⟩ := List.getElem?_of_mem hq; have hjl := (List.getElem?_eq_some_iff.1 hj).1; have hjc : l[j]? = some (l[j]'(by omega)) := List.getElem?_eq_getElem _
  obtain ⟨⟨_, h1⟩, _⟩ := (h.tab j _ q hjc hj).tab; exact Ow.lt_of_blk h1
 refine ⟨?_, fun q hq => ?_, fun j d q hj hq => ?_⟩
 · rw [List.nodup_append]
   refine ⟨h.nodup, by simp, fun x hx y hy => ?_⟩
   simp at hy; subst hy; have := hlt x hx; omega
 · rcases List.mem_append.1 hq with hq | hq
   · exact h.low q hq
   · simp at hq; subst hq; omega
 · by_cases hjk : j < k
   · rw [List.getElem?_append_left (by omega)] at hq
     exact (h.tab j d q hj hq).on (hs q (List.mem_of_getElem? hq))
   · rw [List.getElem?_append_right (by omega)] at hq
     have hj0 : j - bs.length = 0 := by
      have := (List.getElem?_eq_some_iff.1 hq).1; simp at this; omega
     rw [hj0] at hq; simp at hq; have : j = k := by omega
     subst this; rw [hc] at hj; injection hj with hj; subst hj hq; exact ht
structure Tabs1 (w0 wr : World) (l : List Pp.XCls) (bs : List Nat) (k : Nat) : Prop where
 tied : ∀ (j : Nat) (c : Pp.XCls) (b : Nat), j < k -> l[j]? = some c -> bs[j]? = some b -> Tab1 w0 wr (fun q => q ∈ bs) c (Ly.placeB l bs c.super) (Ly.ifsB l bs c.ifaces) b
 rest : ∀ (j : Nat) (c : Pp.XCls) (b : Nat), k <= j -> l[j]? = some c -> bs[j]? = some b -> Tab0 w0 wr c b
theorem Tabs1.tab {w0 wr : World} {l : List Pp.XCls} {bs : List Nat} {k : Nat} (h : Tabs1 w0 wr l bs k) {j : Nat} {c : Pp.XCls} {b : Nat} (hj : l[j]? = some c) (hb : bs[j]? = some b) : (∃ cs, wr.heap[b]? = some (.cells cs 84 (0, 0))) /\ wr.cell? ⟨b, 0, none⟩ = some (.string ⟨c.name.toArray⟩) := by
 by_cases hk : j < k
 · exact (h.tied j c b hk hj hb).tab
 · exact (h.rest j c b (by omega) hj hb).tab
theorem Tabs1.all {w0 wr : World} {l : List Pp.XCls} {bs : List Nat} {k : Nat} (h : Tabs1 w0 wr l bs k) (hl : bs.length = l.length) (hn : bs.Nodup) {b : Nat} (hb : b ∈ bs) : (∃ cs, wr.heap[b]? = some (.cells cs 84 (0, 0))) /\ wr.cell? ⟨b, 0, none⟩ = some (.string ⟨(Ly.nmF l bs b).toArray⟩) := by
 obtain ⟨j, hj⟩ := List.getElem?_of_mem hb; have hlt := (List.getElem?_eq_some_iff.1 hj).1; have hc := Ly.at_of (l := l) (k := j) (by omega)
 have h1 := h.tab hc hj; have h2 := Ly.getD_at hlt; rw [hj] at h2; injection h2 with h2; rw [h2, Ly.nmF_at hn hlt hc, <- h2]; exact h1
theorem Tabs1.next {w0 wr w' : World} {l : List Pp.XCls} {bs : List Nat} {k b : Nat} {c : Pp.XCls} (h : Tabs1 w0 wr l bs k) (hn : bs.Nodup) (hc : l[k]? = some c) (hb : bs[k]? = some b) (hf : Fx (fun q => q = b) wr w') (ht : Tab1 w0 w' (fun q => q ∈ bs) c (Ly.placeB l bs c.super) (Ly.ifsB l bs c.ifaces) b) : Tabs1 w0 w' l bs (k + 1) := by
 have hne : ∀ (j q : Nat), j ≠ k -> bs[j]? = some q -> q ≠ b := fun j q hj hq e => by
  have hjl := (List.getElem?_eq_some_iff.1 hq).1; have hkl := (List.getElem?_eq_some_iff.1 hb).1; subst e; have h1 : bs[j] = q := by simpa [List.getElem?_eq_getElem hjl] using hq
  have h2 : bs[k] = q := by simpa [List.getElem?_eq_getElem hkl] using hb
  have e1 := hn.idxOf_getElem j hjl; have e2 := hn.idxOf_getElem k hkl; rw [h1] at e1; rw [h2] at e2; exact hj (e1.symm.trans e2)
 refine ⟨fun j d q hj hd hq => ?_, fun j d q hj hd hq => ?_⟩
 · by_cases hjk : j = k
   · subst hjk
     rw [hc] at hd; injection hd with hd; rw [hb] at hq; injection hq with hq; subst hd hq; exact ht
   · exact (h.tied j d q (by omega) hd hq).on hf (fun x hx => by rw [show x = b from hx]; exact List.mem_of_getElem? hb) (hne j q hjk hq)
 · have h1 := h.rest j d q (by omega) hd hq
   obtain ⟨⟨_, h2⟩, _⟩ := h1.tab; exact h1.on (hf.blk q (Ow.lt_of_blk h2) (hne j q (by omega) hq))
theorem bind_any (l : List Pp.XCls) (v : Value) (w : World) (h : RowX w 6 (ClsX w) v l) (hl : l.length <= 100) (hi : ∀ c ∈ l, c.ifaces.length <= 100 /\ ∀ y ∈ c.ifaces, (Hr.placeL l y).isSome = true) :
 Calls Tryz.prog 16 #[v] w fun e w' => ∃ v', e = .returned v' /\ ∃ bs : List Nat, bs.Nodup /\ bs.length = l.length /\ (∀ b ∈ bs, w.heap.size <= b) /\ Below w.heap.size w w' /\ Stb (fun k => k ∈ bs) w' 1 PtrX v' bs /\ Tabs1 w w' l bs l.length := by
 have HRw := hide h; have HIf := hide hi; obtain ⟨pa, pc, rfl, _⟩ := h.len; clear h hi; obtain ⟨n, hn⟩ : ∃ q, q = l.length := ⟨_, rfl⟩; have HN := hide hn; rw [<- hn] at HRw hl ⊢; clear hn; have hn1 : (n : Int) <= 100 := by omega
 obtain ⟨j0, hj, hj0, hj1, hj2⟩ := Ow.info_of' Ow.i_tabp; go_enter Tryz.func16, Tryz.ntmps16; go_wp2_with fail
 go_loopw [3, 14] (fun r i wr => ∃ (k : Nat) (la : Option Addr) (lc : Nat) (bs : List Nat), k <= n /\ i = .int .i64 k /\ r = .slice la k lc /\ Hid (bs.length = k) /\ Hid (Below w.heap.size w wr) /\ Hid (Ow.OwnX wr w.heap.size 51 1 PtrX (.slice la k lc) bs) /\ Hid (Tabs0 w wr l bs)) (fun _ i _ => n - (intOf i).toNat)
 case atStart => exact ⟨0, none, 0, [], Nat.zero_le _, rfl, rfl, hide rfl, hide (Below.refl _ _), hide (Ow.OwnX.nil _ _ _ _ _), hide ⟨by simp, by simp, fun j c b _ hb => by simp at hb⟩⟩
 case round =>
  obtain ⟨k, la, lc, bs, hk, rfl, rfl, HLb, HB, HO, HT⟩ := hrel; by_cases hlt : k < n
  · obtain ⟨x, hx⟩ : ∃ x, l[k]? = some x := ⟨l[k]'(by rw [<- HN.out]; exact hlt), List.getElem?_eq_getElem _⟩
    obtain ⟨g, o, rfl, ys, wf, hc⟩ := Ow.row_at' HRw.out hx; have hG := hide (hc wr HB.out); have HX := hide hx; have HWf := hide wf; obtain ⟨ia, ic, fa, fc, ma, mc, rfl, _⟩ := cls_open wf; clear hc hx wf; have r0 := hG.out 0 _ rfl; have r1 := hG.out 1 _ rfl; have r2 := hG.out 2 _ rfl; have r3 := hG.out 3 _ rfl; have r4 := hG.out 4 _ rfl; have r5 := hG.out 5 _ rfl; rw [Nat.add_zero] at r0; clear hG; have hlt' : (k : Int) < (n : Int) := by omega
    have hA : Below wr.heap.size wr (((wr.alloc (.cells #[.string ⟨x.name.toArray⟩, .bool x.iface, .string ⟨x.super.toArray⟩, .slice ia x.ifaces.length ic, .slice fa x.fields.length fc, .slice ma x.methods.length mc] 36)).alloc (.cells #[.string ⟨x.name.toArray⟩, .bool x.iface, .string ⟨x.super.toArray⟩, .slice ia x.ifaces.length ic, .slice fa x.fields.length fc, .slice ma x.methods.length mc, .pointer none, .slice none 0 0, .int .u32 0, .int .i32 0, .int .u32 0, .slice none 0 0, .slice none 0 0, .slice none 0 0] 84)).alloc (.cells #[.pointer (some ⟨wr.heap.size + 1, 0, none⟩)] 51)) := ((((Below.refl _ _).alloc (Nat.le_refl _) _).alloc (by simp) _).alloc (by simp; omega) _)
    have hbx := heap_alloc_new wr (.cells #[.string ⟨x.name.toArray⟩, .bool x.iface, .string ⟨x.super.toArray⟩, .slice ia x.ifaces.length ic, .slice fa x.fields.length fc, .slice ma x.methods.length mc] 36); have b0 := cell_box hbx 0; have b1 := cell_box hbx 1; have b2 := cell_box hbx 2; have b3 := cell_box hbx 3; have b4 := cell_box hbx 4; have b5 := cell_box hbx 5
    have hT2 : (((wr.alloc (.cells #[.string ⟨x.name.toArray⟩, .bool x.iface, .string ⟨x.super.toArray⟩, .slice ia x.ifaces.length ic, .slice fa x.fields.length fc, .slice ma x.methods.length mc] 36)).alloc (.cells #[.string ⟨x.name.toArray⟩, .bool x.iface, .string ⟨x.super.toArray⟩, .slice ia x.ifaces.length ic, .slice fa x.fields.length fc, .slice ma x.methods.length mc, .pointer none, .slice none 0 0, .int .u32 0, .int .i32 0, .int .u32 0, .slice none 0 0, .slice none 0 0, .slice none 0 0] 84)).alloc (.cells #[.pointer (some ⟨wr.heap.size + 1, 0, none⟩)] 51)).heap[wr.heap.size + 1]? = some (.cells #[.string ⟨x.name.toArray⟩, .bool x.iface, .string ⟨x.super.toArray⟩, .slice ia x.ifaces.length ic, .slice fa x.fields.length fc, .slice ma x.methods.length mc, .pointer none, .slice none 0 0, .int .u32 0, .int .i32 0, .int .u32 0, .slice none 0 0, .slice none 0 0, .slice none 0 0] 84 (0, 0)) := by
     have h1 := heap_alloc_new (wr.alloc (.cells #[.string ⟨x.name.toArray⟩, .bool x.iface, .string ⟨x.super.toArray⟩, .slice ia x.ifaces.length ic, .slice fa x.fields.length fc, .slice ma x.methods.length mc] 36)) (.cells #[.string ⟨x.name.toArray⟩, .bool x.iface, .string ⟨x.super.toArray⟩, .slice ia x.ifaces.length ic, .slice fa x.fields.length fc, .slice ma x.methods.length mc, .pointer none, .slice none 0 0, .int .u32 0, .int .i32 0, .int .u32 0, .slice none 0 0, .slice none 0 0, .slice none 0 0] 84); have h2 : (wr.alloc (.cells #[.string ⟨x.name.toArray⟩, .bool x.iface, .string ⟨x.super.toArray⟩, .slice ia x.ifaces.length ic, .slice fa x.fields.length fc, .slice ma x.methods.length mc] 36)).heap.size = wr.heap.size + 1 := by simp
     rw [h2] at h1; exact (((Below.refl ((wr.alloc (.cells #[.string ⟨x.name.toArray⟩, .bool x.iface, .string ⟨x.super.toArray⟩, .slice ia x.ifaces.length ic, .slice fa x.fields.length fc, .slice ma x.methods.length mc] 36)).alloc (.cells #[.string ⟨x.name.toArray⟩, .bool x.iface, .string ⟨x.super.toArray⟩, .slice ia x.ifaces.length ic, .slice fa x.fields.length fc, .slice ma x.methods.length mc, .pointer none, .slice none 0 0, .int .u32 0, .int .i32 0, .int .u32 0, .slice none 0 0, .slice none 0 0, .slice none 0 0] 84)).heap.size ((wr.alloc (.cells #[.string ⟨x.name.toArray⟩, .bool x.iface, .string ⟨x.super.toArray⟩, .slice ia x.ifaces.length ic, .slice fa x.fields.length fc, .slice ma x.methods.length mc] 36)).alloc (.cells #[.string ⟨x.name.toArray⟩, .bool x.iface, .string ⟨x.super.toArray⟩, .slice ia x.ifaces.length ic, .slice fa x.fields.length fc, .slice ma x.methods.length mc, .pointer none, .slice none 0 0, .int .u32 0, .int .i32 0, .int .u32 0, .slice none 0 0, .slice none 0 0, .slice none 0 0] 84))).alloc (Nat.le_refl _) (.cells #[.pointer (some ⟨wr.heap.size + 1, 0, none⟩)] 51)).block _ (Ow.lt_of_blk h1)).trans h1
    have HT2 := hide hT2; have HA := hide hA; have HO2 := hide (HO.out.on hA fun _ _ h => h); have HR2 : Hid (RowX (((wr.alloc (.cells #[.string ⟨x.name.toArray⟩, .bool x.iface, .string ⟨x.super.toArray⟩, .slice ia x.ifaces.length ic, .slice fa x.fields.length fc, .slice ma x.methods.length mc] 36)).alloc (.cells #[.string ⟨x.name.toArray⟩, .bool x.iface, .string ⟨x.super.toArray⟩, .slice ia x.ifaces.length ic, .slice fa x.fields.length fc, .slice ma x.methods.length mc, .pointer none, .slice none 0 0, .int .u32 0, .int .i32 0, .int .u32 0, .slice none 0 0, .slice none 0 0, .slice none 0 0] 84)).alloc (.cells #[.pointer (some ⟨wr.heap.size + 1, 0, none⟩)] 51)) 1 PtrX (.slice (some ⟨((wr.alloc (.cells #[.string ⟨x.name.toArray⟩, .bool x.iface, .string ⟨x.super.toArray⟩, .slice ia x.ifaces.length ic, .slice fa x.fields.length fc, .slice ma x.methods.length mc] 36)).alloc (.cells #[.string ⟨x.name.toArray⟩, .bool x.iface, .string ⟨x.super.toArray⟩, .slice ia x.ifaces.length ic, .slice fa x.fields.length fc, .slice ma x.methods.length mc, .pointer none, .slice none 0 0, .int .u32 0, .int .i32 0, .int .u32 0, .slice none 0 0, .slice none 0 0, .slice none 0 0] 84)).heap.size, 0, none⟩) 1 1) [wr.heap.size + 1]) := hide (Ow.row_one' (P := PtrX) (x := wr.heap.size + 1) (ys := [.pointer (some ⟨wr.heap.size + 1, 0, none⟩)]) rfl); have HB2 := hide (HB.out.trans (hA.mono HB.out.size)); have hll : bs.length <= 100 := by rw [HLb.out]; omega
    clear hA hbx hT2
    go_wp2_with (at_builtin; refine Ow.wpList_app rfl (.tmp 18) (.tmp 22) 48 rfl Tryz.underlying48 hj hj0 hj1 hj2 (by decide) shp_ptr (by first | rfl | simp [Act.eval, Act.put]) HO2.out (by first | rfl | simp [Act.eval, Act.put]) HR2.out (by simp; omega) (by decide) HB2.out.size ?_)
    intro v5 w5 ho5 hg5; have HB5 := hide (HB2.out.trans (Ow.bel_grown HO2.out HB2.out.size hg5)); have hK := Ow.kx_grown HO2.out hg5
    have HT5 : Hid (Tabs0 w w5 l (bs ++ [wr.heap.size + 1])) := hide (HT.out.more HLb.out (by rw [<- HN.out]; exact hk) HX.out HB.out.size (Nat.le_succ _) ⟨ia, ic, fa, fc, ma, mc, hK.blk _ _ _ _ HT2.out (by decide), HWf.out⟩ (fun q hq => by
     obtain ⟨j, hj'⟩ := List.getElem?_of_mem hq; have hjl := (List.getElem?_eq_some_iff.1 hj').1; have hjk : j < l.length := by rw [<- HN.out]; have := HLb.out; omega
     obtain ⟨⟨cs, h1⟩, _⟩ := (HT.out.tab j _ q (List.getElem?_eq_getElem hjk) hj').tab; rw [h1]
     exact hK.blk _ _ _ _ ((HA.out.block q (Ow.lt_of_blk h1)).trans h1) (by decide)))
    have HO5 := hide ho5; obtain ⟨xa, xc, hv5⟩ := HO5.out.shape; have hn5 : (bs ++ [wr.heap.size + 1]).length = k + 1 := by rw [List.length_append, HLb.out]; rfl
    have HL5 := hide hn5; rw [hn5] at hv5; subst hv5; clear hn5 hK ho5 hg5 HO2 HR2 HB2 HA HT2 hll; go_wp2_with fail
    go_roundw
    case rel => exact ⟨k + 1, xa, xc, _, by omega, by go_num, rfl, HL5, HB5, HO5, HT5⟩
    case measure => simp [intOf]; omega
  · have hkn : k = n := by omega
    subst hkn; have hnl : ¬ ((k : Int) < (k : Int)) := by omega
    have HLn : Hid (bs.length = l.length) := hide (HLb.out.trans HN.out); have HTt : Hid (Tabs1 w wr l bs 0) := hide ⟨fun j _ _ hj => absurd hj (Nat.not_lt_zero _), fun j c b _ hj hb => HT.out.tab j c b hj hb⟩
    have HSt : Hid (Stb (fun q => q ∈ bs) wr 1 PtrX (.slice la k lc) bs) := hide (HO.out.stbT shp_ptr fun q hq => by
     obtain ⟨⟨cs, h1⟩, _⟩ := HTt.out.all HLn.out HT.out.nodup hq
     exact ⟨cs, _, h1, by decide⟩)
    have HNd := hide HT.out.nodup; have HLow := hide HT.out.low; clear HT HO; go_wp2_with fail
    go_loopw [27] (fun i wr => ∃ q : Nat, q <= k /\ i = .int .i64 q /\ Hid (Below w.heap.size w wr) /\ Hid (Stb (fun q => q ∈ bs) wr 1 PtrX (.slice la k lc) bs) /\ Hid (Tabs1 w wr l bs q)) (fun i _ => k - (intOf i).toNat)
    case atStart => exact ⟨0, Nat.zero_le _, rfl, HB, HSt, HTt⟩
    case round =>
     clear HB HSt HTt; obtain ⟨q, hq, rfl, HB, HSt, HTt⟩ := hrel; by_cases hqk : q < k
     · obtain ⟨b, hb⟩ : ∃ b, bs[q]? = some b := ⟨bs[q]'(by rw [HLb.out]; exact hqk), List.getElem?_eq_getElem _⟩
       obtain ⟨x, hx⟩ : ∃ x, l[q]? = some x := ⟨l[q]'(by rw [<- HN.out]; exact hqk), List.getElem?_eq_getElem _⟩
       have HRr := HSt.out.row; obtain ⟨g, o, rfl, ys, wf, hc⟩ := Ow.row_at' HRr hb; have hwf : ys = [.pointer (some ⟨b, 0, none⟩)] := wf; subst hwf; have r0 := hc wr (Below.refl _ _) 0 _ rfl; rw [Nat.add_zero, Nat.mul_one] at r0; have HBq := hide hb; have HXq := hide hx; obtain ⟨ia, ic, fa, fc, ma, mc, hblk, hcls⟩ := HTt.out.rest q x b (Nat.le_refl _) hx hb; have HBlk := hide hblk; have HCls := hide hcls; have HIx := hide (HIf.out x (List.mem_of_getElem? hx)); have hif := HIx.out.1; clear hb hx hc wf hblk hcls HRr; have c2 : wr.cell? ⟨b, 2, none⟩ = some (.string ⟨x.super.toArray⟩) := cell_box HBlk.out 2; have c6 : wr.cell? ⟨b, 6, none⟩ = some (.pointer none) := cell_box HBlk.out 6; have z6 := Ow.fzl_blk HBlk.out 6; have hqk' : (q : Int) < (k : Int) := by omega
       have hbs1 : bs.length <= 1000 := by have := HLb.out; omega
       have HFs : Hid (∀ (y : Pp.Bs) wx, Stb (fun q => q ∈ bs) wx 1 PtrX (.slice (some ⟨g, o, none⟩) k lc) bs -> (∀ b' ∈ bs, wx.cell? ⟨b', 0, none⟩ = some (.string ⟨(Ly.nmF l bs b').toArray⟩)) -> Calls Tryz.prog 19 #[.slice (some ⟨g, o, none⟩) k lc, .string ⟨y.toArray⟩] wx fun e w' => e = .returned (.tuple #[.pointer (ptrO (Ly.placeB l bs y)), .bool (Ly.placeB l bs y).isSome]) /\ w' = wx) := hide fun y wx h1 h2 => by
        have := tfind_any bs (Ly.nmF l bs) (.slice (some ⟨g, o, none⟩) k lc) y wx h1.row hbs1 h2; rw [Ly.find_place HNd.out HLn.out y] at this; exact this
       have HFc := hide (HFs.out x.super wr HSt.out fun b' hb' => (HTt.out.all HLn.out HNd.out hb').2); have HPs := hide (Eq.refl (Ly.placeB l bs x.super)); have HPt : Hid (∃ s, s = Ly.placeB l bs x.super) := hide ⟨_, rfl⟩; obtain ⟨sp, hsp⟩ := HPt.out; rw [<- hsp] at HFc; have HSp := hide hsp; clear hsp HPs HPt; go_wp2_with fail; refine HFc.out.mono ?_; rintro e w5 ⟨rfl, hw5⟩; have hw5' := hw5.symm; subst hw5'; clear HFc hw5; have HF6 : Hid (Fx (fun q => q = b) wr (wr.setCell ⟨b, 6, none⟩ (.pointer (ptrO sp)))) := hide (Fx.set (S := fun q => q = b) rfl _); have HB6 : Hid ((wr.setCell ⟨b, 6, none⟩ (.pointer (ptrO sp))).heap[b]? = some (.cells (tabA x (.slice ia x.ifaces.length ic) (.slice fa x.fields.length fc) (.slice ma x.methods.length mc) (ptrO sp) (.slice none 0 0)) 84 (0, 0))) := hide (put_blk HBlk.out _); obtain ⟨ni, hni⟩ : ∃ y, y = x.ifaces.length := ⟨_, rfl⟩; have HNi := hide hni; have c3 : (wr.setCell ⟨b, 6, none⟩ (.pointer (ptrO sp))).cell? ⟨b, 3, none⟩ = some (.slice ia ni ic) := by rw [hni]; exact cell_box HB6.out 3
       have hXi : RowX w 1 StrX (.slice ia ni ic) x.ifaces := by
        obtain ⟨_, _, _, e, x1, _⟩ := HCls.out; simp only [clsXL, List.cons.injEq, and_true, true_and] at e; rw [hni, e.1]; exact x1
       have HXi := hide hXi; rw [<- hni] at hif; have hni1 : (ni : Int) <= 100 := by omega
       clear hXi hni; go_wp2_with fail; obtain ⟨wk, hwk⟩ : ∃ y, y = wr.setCell ⟨b, 6, none⟩ (.pointer (ptrO sp)) := ⟨_, rfl⟩; rw [<- hwk] at HF6 HB6 c3 ⊢; have HBk : Hid (Below w.heap.size w wk) := hide (below_fx HB.out HF6.out fun y hy => by rw [show y = b from hy]; exact HLow.out b (List.mem_of_getElem? HBq.out))
       clear hwk c2 c6 z6
       go_loopw [50] (fun i wq => ∃ (j : Nat) (vs : Value), j <= ni /\ i = .int .i64 j /\ Hid (Fx (fun y => y = b) wk wq) /\ Hid (wq.heap[b]? = some (.cells (tabA x (.slice ia x.ifaces.length ic) (.slice fa x.fields.length fc) (.slice ma x.methods.length mc) (ptrO sp) vs) 84 (0, 0))) /\ Hid (Ow.OwnX wq wk.heap.size 51 1 PtrX vs (Ly.ifsB l bs (x.ifaces.take j)))) (fun i _ => ni - (intOf i).toNat)
       case atStart => exact ⟨0, .slice none 0 0, Nat.zero_le _, rfl, hide (Fx.refl _ _), HB6, hide (Ow.OwnX.nil _ _ _ _ _)⟩
       case round =>
        obtain ⟨j, vs, hjn, rfl, HFj, HBj, HOj⟩ := hrel; have HFa := hide (HF6.out.trans HFj.out); have HBw := hide (below_fx HBk.out HFj.out fun y hy => by rw [show y = b from hy]; exact HLow.out b (List.mem_of_getElem? HBq.out))
        have HSr := hide (HSt.out.on (HFa.out.mono fun y _ hy => by rw [show y = b from hy]; exact List.mem_of_getElem? HBq.out) fun _ _ h => h)
        have HTb : Hid (∀ b' ∈ bs, ∃ cs, wr.heap[b']? = some (.cells cs 84 (0, 0))) := hide fun b' hb' => by
         by_cases hbb : b' = b
         · rw [hbb]; exact ⟨_, HBj.out⟩
         · obtain ⟨⟨cs, h1⟩, _⟩ := HTt.out.all HLn.out HNd.out hb'
           exact ⟨cs, (HFa.out.blk b' (Ow.lt_of_blk h1) hbb).trans h1⟩
        have HNr : Hid (∀ b' ∈ bs, wr.cell? ⟨b', 0, none⟩ = some (.string ⟨(Ly.nmF l bs b').toArray⟩)) := hide fun b' hb' => by
         obtain ⟨⟨cs, h1⟩, h2⟩ := HTt.out.all HLn.out HNd.out hb'; by_cases hbb : b' = b
         · have h3 := (cell_box HBlk.out 0 : _)
           rw [hbb] at h2 ⊢; rw [h2] at h3; have h4 : wr.cell? ⟨b, 0, none⟩ = some (.string ⟨x.name.toArray⟩) := cell_box HBj.out 0; rw [h4, h3]
           rfl
         · exact (cell_of_blk (HFa.out.blk b' (Ow.lt_of_blk h1) hbb)).trans h2
        by_cases hjl : j < ni
        · obtain ⟨y, hy⟩ : ∃ y, x.ifaces[j]? = some y := ⟨x.ifaces[j]'(by rw [<- HNi.out]; exact hjl), List.getElem?_eq_getElem _⟩
          obtain ⟨g2, o2, rfl, ys, wf, hc⟩ := Ow.row_at' HXi.out hy; obtain ⟨rfl, _⟩ := wf; have s0 := hc wr HBw.out 0 _ rfl; rw [Nat.add_zero, Nat.mul_one] at s0; have hsm := HIx.out.2 y (List.mem_of_getElem? hy)
          obtain ⟨b2, hb2⟩ : ∃ b2, Ly.placeB l bs y = some b2 := by
           unfold Ly.placeB; cases hp : Hr.placeL l y with
           | none => rw [hp] at hsm; cases hsm
           | some k2 => exact ⟨_, rfl⟩
          have HSn := hide (Ly.ifsB_snoc hy hb2); have HFy := hide (HFs.out y wr HSr.out HNr.out); rw [hb2] at HFy; simp only [ptrO, Option.map_some, Option.isSome_some] at HFy
          have HLj : Hid ((Ly.ifsB l bs (x.ifaces.take j)).length <= 100) := hide (by
           have h1 := Ly.ifsB_len l bs (x.ifaces.take j); rw [List.length_take] at h1
           omega)
          clear hc hy hsm hb2; have hjl' : (j : Int) < (ni : Int) := by omega
          obtain ⟨la2, lc2, hvs⟩ := HOj.out.shape; obtain ⟨ln2, hln2⟩ : ∃ q, q = (Ly.ifsB l bs (x.ifaces.take j)).length := ⟨_, rfl⟩; rw [<- hln2] at hvs; subst hvs; have hl2 : ln2 <= 100 := by rw [hln2]; exact HLj.out
          have c7 : wr.cell? ⟨b, 7, none⟩ = some (.slice la2 ln2 lc2) := cell_box HBj.out 7; have hA := (Below.refl wr.heap.size wr).alloc (Nat.le_refl _) (.cells #[.pointer (some ⟨b2, 0, none⟩)] 51); have HO2 := hide (HOj.out.on hA fun _ _ h => h); have HR2 : Hid (RowX (wr.alloc (.cells #[.pointer (some ⟨b2, 0, none⟩)] 51)) 1 PtrX (.slice (some ⟨wr.heap.size, 0, none⟩) 1 1) [b2]) := hide (Ow.row_one' (P := PtrX) (x := b2) (ys := [.pointer (some ⟨b2, 0, none⟩)]) rfl); have HBx := hide ((hA.block b (Ow.lt_of_blk HBj.out)).trans HBj.out); have HF2 := hide (HFj.out.trans (Fx.below hA)); have hll : (Ly.ifsB l bs (x.ifaces.take j)).length <= 100 := HLj.out; have hbase : wk.heap.size <= (wr.alloc (.cells #[.pointer (some ⟨b2, 0, none⟩)] 51)).heap.size := HF2.out.size; clear hA hln2; go_wp2_with fail; refine HFy.out.mono ?_; rintro e w6 ⟨rfl, hw6⟩; have hw6' := hw6.symm; subst hw6'; clear HFy hw6
          go_wp2_with (at_builtin; refine Ow.wpList_app rfl (.tmp 64) (.tmp 66) 47 rfl Tryz.underlying47 hj hj0 hj1 hj2 (by decide) shp_ptr (by first | rfl | simp [Act.eval, Act.put]) HO2.out (by first | rfl | simp [Act.eval, Act.put]) HR2.out (by simp; omega) (by decide) hbase ?_)
          intro v5 w5 ho5 hg5; have hK := Ow.kx_grown HO2.out hg5; have HB5 := hide (hK.blk _ _ _ _ HBx.out (by decide))
          have HF5 : Hid (Fx (fun y => y = b) wk w5) := hide (HF2.out.then (Fx.grown hg5) (fun y hy h => by
           obtain ⟨nw, _, hown⟩ := HO2.out
           rcases hown.2 with ⟨h1, _⟩ | ⟨g3, cap, cur, h1, hg3, _⟩
           · rw [h1] at h; cases h
           · rw [h1] at h
             injection h with h; have h : g3 = y := h
             omega))
          have HO5 := hide ho5; obtain ⟨xa, xc, hv5⟩ := HO5.out.shape; obtain ⟨n5, hn5⟩ : ∃ q, q = (Ly.ifsB l bs (x.ifaces.take j) ++ [b2]).length := ⟨_, rfl⟩; rw [<- hn5] at hv5; subst hv5; have c7' : w5.cell? ⟨b, 7, none⟩ = some (.slice la2 ln2 lc2) := cell_box HB5.out 7; have z7 := Ow.fzl_blk HB5.out 7; clear hK ho5 hg5 HO2 HR2 HBx HF2 hn5 c7 hll hbase; go_wp2_with fail
          go_roundw
          case rel =>
           refine ⟨j + 1, .slice xa n5 xc, by omega, by go_num, hide (HF5.out.trans (Fx.set (S := fun y => y = b) rfl _)), hide (put_blk HB5.out _), ?_⟩
           rw [HSn.out]; exact hide (HO5.out.putb HB5.out (by decide))
          case measure => simp [intOf]; omega
        · have hjn2 : j = ni := by omega
          subst hjn2; have hnl3 : ¬ ((j : Int) < (j : Int)) := by omega
          have HEnd : Hid (Tabs1 w wr l bs (q + 1)) := hide (HTt.out.next HNd.out HXq.out HBq.out HFa.out (by
           have h1 := HBj.out; rw [HSp.out] at h1
           have h2 := HOj.out.stbT shp_ptr (S := fun q => q ∈ bs) fun b' hb' => by
            obtain ⟨cs, h3⟩ := HTb.out b' hb'; exact ⟨cs, _, h3, by decide⟩
           rw [List.take_of_length_le (by rw [<- HNi.out]; exact Nat.le_refl _)] at h2
           exact ⟨ia, ic, fa, fc, ma, mc, vs, h1, HCls.out, h2⟩))
          go_wp2_with fail
          go_roundw
          case rel => exact ⟨q + 1, by omega, by go_num, HBw, HSr, HEnd⟩
          case measure => simp [intOf]; omega
     · have hqe : q = k := by omega
       subst hqe; have hnl2 : ¬ ((q : Int) < (q : Int)) := by omega
       go_wp2_with fail; go_ret; exact ⟨_, rfl, bs, HNd.out, HLb.out, HLow.out, HB.out, HSt.out, HTt.out⟩
theorem ix3_0 (a b c : Value) (w : World) : (Instr.index 99 (.agg #[a, b, c]) (.int .i64 0)).run Tryz.prog w = .ok a w := by kernel_rfl
theorem ix3_1 (a b c : Value) (w : World) : (Instr.index 99 (.agg #[a, b, c]) (.int .i64 1)).run Tryz.prog w = .ok b w := by kernel_rfl
theorem ix3_2 (a b c : Value) (w : World) : (Instr.index 99 (.agg #[a, b, c]) (.int .i64 2)).run Tryz.prog w = .ok c w := by kernel_rfl
theorem check_any (N : Net) (l : List Pp.XCls) (bs : List Nat) (hok : NetOk N l bs) (v : Value) (w0 w : World) (A : Nat -> Prop) (h : Rdy N w0 w A) (hrow : Stb (fun k => N.T k \/ A k) w 1 PtrX v bs) :
 Calls Tryz.prog 18 #[v] w fun e w' => e = .returned (.int .i64 (Ly.checkF N l bs)) /\ Rdy N w0 w' A /\ Fx N.T w w' := by
 have HOk := hide hok; have HRdy := hide h; have HC0 := hide (fun wr x (hT : N.T x) (hr : Rdy N w0 wr A) (hf : Fx N.T w wr) => (memberFault_any N l bs v x w0 wr A hok hr (hrow.on (hf.mono fun k _ hk => Or.inl hk) fun _ _ h => h).row hT).mono (R' := fun e w' => e = .returned (.int .i64 (Ly.memF l (N.cl x))) /\ Rdy N w0 w' A /\ Fx N.T wr w') fun e w' h2 => ⟨h2.1, hr.on h2.2, Fx.below h2.2⟩); have HC1 := hide (fun wr x (hT : N.T x) (hr : Rdy N w0 wr A) (hf : Fx N.T w wr) => superFault_any N l bs hok v x hT w0 wr A hr (by obtain ⟨a, c, e, _⟩ := hrow; exact ⟨a, _, c, e⟩))
 have HC2 := hide (fun wr x (hT : N.T x) (hr : Rdy N w0 wr A) (hf : Fx N.T w wr) => ifaceFault_any N l bs hok v x hT w0 wr A hr (hrow.on (hf.mono fun k _ hk => Or.inl hk) fun _ _ h => h)); obtain ⟨va, vc, rfl, _⟩ := hrow.row.len; obtain ⟨nb, hnb⟩ : ∃ q, q = bs.length := ⟨_, rfl⟩; have HN := hide hnb; have hn1 : nb <= 1000 := by rw [hnb]; exact hok.len
 rw [<- hnb] at hrow HC0 HC1 HC2 ⊢; have HRow := hide hrow; obtain ⟨r, hr⟩ : ∃ r, r = Ly.checkF N l bs := ⟨_, rfl⟩
 have HR0 : Hid (∀ {x : Int}, Ly.firstL (fun b => Ly.memF l (N.cl b)) bs = x -> x ≠ 0 -> r = x) := hide fun h1 h2 => by
  rw [hr]; unfold Ly.checkF; rw [if_neg (by rw [h1]; exact h2), h1]
 have HR1 : Hid (Ly.firstL (fun b => Ly.memF l (N.cl b)) bs = 0 -> ∀ {x : Int}, Ly.firstL (Ly.supF N) bs = x -> x ≠ 0 -> r = x) := hide fun h0 {x} h1 h2 => by
  rw [hr]; unfold Ly.checkF; rw [if_pos h0, if_neg (by rw [h1]; exact h2), h1]
 have HR2 : Hid (Ly.firstL (fun b => Ly.memF l (N.cl b)) bs = 0 -> Ly.firstL (Ly.supF N) bs = 0 -> ∀ {x : Int}, Ly.firstL (Ly.ifcF N bs) bs = x -> r = x) := hide fun h0 h1 {x} h2 => by
  rw [hr]; unfold Ly.checkF; rw [if_pos h0, if_pos h1, h2]
 have hmf : ∀ (fn : Fn) (first cap : Array Value) (w : World), (Instr.makeFunc fn first cap).run Tryz.prog w = .ok (.func fn first cap) w := fun _ _ _ _ => rfl
 have hx0 := ix3_0; have hx1 := ix3_1; have hx2 := ix3_2; rw [<- hr]; clear hr hrow h hok hnb; go_enter Tryz.func18, Tryz.ntmps18; go_wp2_with fail
 go_loopw [15] (fun i wr => ∃ k : Nat, k <= 3 /\ i = .int .i64 k /\ Hid (Rdy N w0 wr A) /\ Hid (Fx N.T w wr) /\ Hid (1 <= k -> Ly.firstL (fun b => Ly.memF l (N.cl b)) bs = 0) /\ Hid (2 <= k -> Ly.firstL (Ly.supF N) bs = 0) /\ Hid (3 <= k -> Ly.firstL (Ly.ifcF N bs) bs = 0)) (fun i _ => 3 - (intOf i).toNat)
 case atStart => exact ⟨0, by omega, rfl, HRdy, hide (Fx.refl _ _), hide (fun h => absurd h (by decide)), hide (fun h => absurd h (by decide)), hide (fun h => absurd h (by decide))⟩
 case round =>
  obtain ⟨k, hk, rfl, HQ, HF, G0, G1, G2⟩ := hrel; by_cases h0 : k = 0
  · subst h0
    clear G0 G1 G2; go_wp2_with fail
    go_loopw [20] (fun i wr => ∃ j : Nat, j <= nb /\ i = .int .i64 j /\ Hid (Rdy N w0 wr A) /\ Hid (Fx N.T w wr) /\ Hid (Ly.firstL (fun b => Ly.memF l (N.cl b)) (bs.take j) = 0)) (fun i _ => nb - (intOf i).toNat)
    case atStart => exact ⟨0, Nat.zero_le _, rfl, HQ, HF, hide rfl⟩
    case round =>
     clear HQ HF; obtain ⟨j, hj, rfl, HQ, HF, HZ⟩ := hrel; by_cases hjl : j < nb
     · obtain ⟨x, hx⟩ : ∃ x, bs[j]? = some x := ⟨bs[j]'(by rw [<- HN.out]; exact hjl), List.getElem?_eq_getElem _⟩
       have HRr := (HRow.out.on (HF.out.mono fun k _ hk => Or.inl hk) fun _ _ h => h).row; rw [HN.out] at HRr; obtain ⟨g, o, rfl, ys, wf, hc⟩ := Ow.row_at' HRr hx; have hwf : ys = [.pointer (some ⟨x, 0, none⟩)] := wf; subst hwf; have r0 := hc wr (Below.refl _ _) 0 _ rfl; rw [Nat.add_zero, Nat.mul_one] at r0; have HSt := hide (fun hf => Ly.firstL_stop (f := fun b => Ly.memF l (N.cl b)) HZ.out hx hf); have HTk := hide (Ly.firstL_take (f := fun b => Ly.memF l (N.cl b)) HZ.out hx); have HCall := hide (HC0.out wr x ((HOk.out.mem x).2 (List.mem_of_getElem? hx)) HQ.out HF.out); obtain ⟨lf, hlf⟩ : ∃ q, q = (fun b => Ly.memF l (N.cl b)) x := ⟨_, rfl⟩; have HLf := hide hlf
       try simp only at hlf
       try simp only at HSt
       try simp only at HTk
       rw [<- hlf] at HCall HSt HTk; clear hc wf hx HRr HZ hlf; have hjl' : (j : Int) < (nb : Int) := by omega
       go_wp2_with fail; refine HCall.out.mono ?_; rintro e w5 ⟨rfl, hr5, hf5⟩; have HQ5 := hide hr5; have HF5 := hide (HF.out.trans hf5); clear HCall hr5 hf5; by_cases hl0 : lf = 0
       · subst hl0
         have HT5 := hide HTk.out; clear HSt HTk; go_wp2_with fail
         go_roundw
         case rel => first | exact ⟨j + 1, by omega, by go_num, HQ5, HF5, HT5⟩ | ((repeat apply Exists.intro); exact ⟨⟨j + 1, by omega, by go_num, HQ5, HF5, HT5⟩, rfl⟩)
         case measure => simp [intOf]; omega
       · have hl0' : (lf != 0) = true := by simpa using hl0
         have HRes : Hid (r = lf) := hide (by
          have hlf2 := HSt.out hl0; have h3 := HR0.out hlf2
          exact h3 hl0)
         clear HSt HTk hl0; go_wp2_with fail; go_ret; exact ⟨by rw [HRes.out]; rfl, HQ5.out, HF5.out⟩
     · have HP0 : Hid (Ly.firstL (fun b => Ly.memF l (N.cl b)) bs = 0) := hide (by
        have h1 := HZ.out
        rwa [List.take_of_length_le (by rw [<- HN.out]; omega)] at h1)
       have hnl : ¬ ((j : Int) < (nb : Int)) := by omega
       clear HZ; go_wp2_with fail
       go_roundw
       case rel => exact ⟨1, by omega, rfl, HQ, HF, hide (fun _ => HP0.out), hide (fun h => absurd h (by decide)), hide (fun h => absurd h (by decide))⟩
       case measure => simp [intOf]
  by_cases h1 : k = 1
  · subst h1
    have HP0 := hide (G0.out (by decide))
    clear G0 G1 G2; go_wp2_with fail
    go_loopw [20] (fun i wr => ∃ j : Nat, j <= nb /\ i = .int .i64 j /\ Hid (Rdy N w0 wr A) /\ Hid (Fx N.T w wr) /\ Hid (Ly.firstL (Ly.supF N) (bs.take j) = 0)) (fun i _ => nb - (intOf i).toNat)
    case atStart => exact ⟨0, Nat.zero_le _, rfl, HQ, HF, hide rfl⟩
    case round =>
     clear HQ HF; obtain ⟨j, hj, rfl, HQ, HF, HZ⟩ := hrel; by_cases hjl : j < nb
     · obtain ⟨x, hx⟩ : ∃ x, bs[j]? = some x := ⟨bs[j]'(by rw [<- HN.out]; exact hjl), List.getElem?_eq_getElem _⟩
       have HRr := (HRow.out.on (HF.out.mono fun k _ hk => Or.inl hk) fun _ _ h => h).row; rw [HN.out] at HRr; obtain ⟨g, o, rfl, ys, wf, hc⟩ := Ow.row_at' HRr hx; have hwf : ys = [.pointer (some ⟨x, 0, none⟩)] := wf; subst hwf; have r0 := hc wr (Below.refl _ _) 0 _ rfl; rw [Nat.add_zero, Nat.mul_one] at r0; have HSt := hide (fun hf => Ly.firstL_stop (f := Ly.supF N) HZ.out hx hf); have HTk := hide (Ly.firstL_take (f := Ly.supF N) HZ.out hx); have HCall := hide (HC1.out wr x ((HOk.out.mem x).2 (List.mem_of_getElem? hx)) HQ.out HF.out); obtain ⟨lf, hlf⟩ : ∃ q, q = (Ly.supF N) x := ⟨_, rfl⟩; have HLf := hide hlf
       try simp only at hlf
       try simp only at HSt
       try simp only at HTk
       rw [<- hlf] at HCall HSt HTk; clear hc wf hx HRr HZ hlf; have hjl' : (j : Int) < (nb : Int) := by omega
       go_wp2_with fail; refine HCall.out.mono ?_; rintro e w5 ⟨rfl, hr5, hf5⟩; have HQ5 := hide hr5; have HF5 := hide (HF.out.trans hf5); clear HCall hr5 hf5; by_cases hl0 : lf = 0
       · subst hl0
         have HT5 := hide HTk.out; clear HSt HTk; go_wp2_with fail
         go_roundw
         case rel => first | exact ⟨j + 1, by omega, by go_num, HQ5, HF5, HT5⟩ | ((repeat apply Exists.intro); exact ⟨⟨j + 1, by omega, by go_num, HQ5, HF5, HT5⟩, rfl⟩)
         case measure => simp [intOf]; omega
       · have hl0' : (lf != 0) = true := by simpa using hl0
         have HRes : Hid (r = lf) := hide (by
          have hlf2 := HSt.out hl0; have h3 := HR1.out HP0.out hlf2
          exact h3 hl0)
         clear HSt HTk hl0; go_wp2_with fail; go_ret; exact ⟨by rw [HRes.out]; rfl, HQ5.out, HF5.out⟩
     · have HP1 : Hid (Ly.firstL (Ly.supF N) bs = 0) := hide (by
        have h1 := HZ.out
        rwa [List.take_of_length_le (by rw [<- HN.out]; omega)] at h1)
       have hnl : ¬ ((j : Int) < (nb : Int)) := by omega
       clear HZ; go_wp2_with fail
       go_roundw
       case rel => exact ⟨2, by omega, rfl, HQ, HF, hide (fun _ => HP0.out), hide (fun _ => HP1.out), hide (fun h => absurd h (by decide))⟩
       case measure => simp [intOf]
  by_cases h2 : k = 2
  · subst h2
    have HP0 := hide (G0.out (by decide))
    have HP1 := hide (G1.out (by decide))
    clear G0 G1 G2; go_wp2_with fail
    go_loopw [20] (fun i wr => ∃ j : Nat, j <= nb /\ i = .int .i64 j /\ Hid (Rdy N w0 wr A) /\ Hid (Fx N.T w wr) /\ Hid (Ly.firstL (Ly.ifcF N bs) (bs.take j) = 0)) (fun i _ => nb - (intOf i).toNat)
    case atStart => exact ⟨0, Nat.zero_le _, rfl, HQ, HF, hide rfl⟩
    case round =>
     clear HQ HF; obtain ⟨j, hj, rfl, HQ, HF, HZ⟩ := hrel; by_cases hjl : j < nb
     · obtain ⟨x, hx⟩ : ∃ x, bs[j]? = some x := ⟨bs[j]'(by rw [<- HN.out]; exact hjl), List.getElem?_eq_getElem _⟩
       have HRr := (HRow.out.on (HF.out.mono fun k _ hk => Or.inl hk) fun _ _ h => h).row; rw [HN.out] at HRr; obtain ⟨g, o, rfl, ys, wf, hc⟩ := Ow.row_at' HRr hx; have hwf : ys = [.pointer (some ⟨x, 0, none⟩)] := wf; subst hwf; have r0 := hc wr (Below.refl _ _) 0 _ rfl; rw [Nat.add_zero, Nat.mul_one] at r0; have HSt := hide (fun hf => Ly.firstL_stop (f := Ly.ifcF N bs) HZ.out hx hf); have HTk := hide (Ly.firstL_take (f := Ly.ifcF N bs) HZ.out hx); have HCall := hide (HC2.out wr x ((HOk.out.mem x).2 (List.mem_of_getElem? hx)) HQ.out HF.out); obtain ⟨lf, hlf⟩ : ∃ q, q = (Ly.ifcF N bs) x := ⟨_, rfl⟩; have HLf := hide hlf
       try simp only at hlf
       try simp only at HSt
       try simp only at HTk
       rw [<- hlf] at HCall HSt HTk; clear hc wf hx HRr HZ hlf; have hjl' : (j : Int) < (nb : Int) := by omega
       go_wp2_with fail; refine HCall.out.mono ?_; rintro e w5 ⟨rfl, hr5, hf5⟩; have HQ5 := hide hr5; have HF5 := hide (HF.out.trans hf5); clear HCall hr5 hf5; by_cases hl0 : lf = 0
       · subst hl0
         have HT5 := hide HTk.out; clear HSt HTk; go_wp2_with fail
         go_roundw
         case rel => first | exact ⟨j + 1, by omega, by go_num, HQ5, HF5, HT5⟩ | ((repeat apply Exists.intro); exact ⟨⟨j + 1, by omega, by go_num, HQ5, HF5, HT5⟩, rfl⟩)
         case measure => simp [intOf]; omega
       · have hl0' : (lf != 0) = true := by simpa using hl0
         have HRes : Hid (r = lf) := hide (by
          have hlf2 := HSt.out hl0; have h3 := HR2.out HP0.out HP1.out hlf2
          exact h3)
         clear HSt HTk hl0; go_wp2_with fail; go_ret; exact ⟨by rw [HRes.out]; rfl, HQ5.out, HF5.out⟩
     · have HP2 : Hid (Ly.firstL (Ly.ifcF N bs) bs = 0) := hide (by
        have h1 := HZ.out
        rwa [List.take_of_length_le (by rw [<- HN.out]; omega)] at h1)
       have hnl : ¬ ((j : Int) < (nb : Int)) := by omega
       clear HZ; go_wp2_with fail
       go_roundw
       case rel => exact ⟨3, by omega, rfl, HQ, HF, hide (fun _ => HP0.out), hide (fun _ => HP1.out), hide (fun _ => HP2.out)⟩
       case measure => simp [intOf]
  have h3 : k = 3 := by omega
  subst h3; have HRes := hide (HR2.out (G0.out (by decide)) (G1.out (by decide)) (G2.out (by decide)))
  clear G0 G1 G2; go_wp2_with fail; go_ret; exact ⟨by rw [HRes.out]; rfl, HQ.out, HF.out⟩
namespace Ow
theorem run_copy_any {P : Program} (w : World) (dT sT ty elem : TypeId) (sz g dLen dCap : Nat) (a : Addr) (sLen sCap : Nat) (cur : Array Value) (t : TypeId) (cs : List Value)
 (hu : P.underlying dT = some (.slice elem)) (hs : (P.info? elem).map (·.size) = some sz)
 (hg : w.heap[g]? = some (.cells cur t (0, 0))) (hn : cs.length = Nat.min sLen dLen * sz)
 (hsrc : ∀ j v, cs[j]? = some v -> w.cell? (a.add j) = some v) (hfit : cs.length <= cur.size) (h1 : ∀ v ∈ cs, v.oneCell' = true) :
 (Builtin.copy_ #[dT, sT] ty #[.slice (some ⟨g, 0, none⟩) dLen dCap, .slice (some a) sLen sCap]).run P w =
   .ok (goInt (Nat.min sLen dLen)) (w.setRow g (cs ++ cur.toList.drop cs.length).toArray) := by
 have hl := run_loadCells_list (P := P) w a cs hsrc; have hst := run_storeCells_at P g 0 t cs 0 cur w hg (by simpa using hfit) h1
 cases hq : P.info? elem with
 | none => simp [hq] at hs
 | some i =>
   have hi : i.size = sz := by simpa [hq] using hs
   simp only [Nat.zero_add, Nat.add_zero, List.take_zero, List.nil_append] at hst; simp [Builtin.copy_, run_underlying hu, Builtin.lenOf, Builtin.firstCells, sizeOf, typeInfo, hq, hi, <- hn, hl, hst]
theorem wpList_mk {P : Program} (w : World) {ops : Array Oper} {rest : List Oper} {o : Oper} {a : Act} {Q : Exit -> Act -> World -> Prop}
 (hg : o.guard = none) (l c : Operand) (t : TypeId) (hop : o.op = Op.makeSlice t l c)
 (base : Nat) (e : TypeId) (size bytes : Nat) (h1 : P.underlying t = some (.slice e)) (h2 : ∃ i z, P.info? e = some i /\ i.zero = some z /\ i.size = size /\ i.bytes = bytes)
 (kl kc : IntKind) (L C : Int) (n : Nat) (hl : a.eval l = .int kl L) (hc : a.eval c = .int kc C) (hL : L = (n : Int)) (hC : C = (n : Int)) (b2 : bytes * n <= 281474976710656) (b3 : n <= maxLen) (b4 : base <= w.heap.size)
 (hK : ∀ w', (∃ xs, w'.ownsRow base e size (.slice (some ⟨w.heap.size, 0, none⟩) n n) n xs) -> w.grownBy w' none -> wpList P ops Q rest (a.put o.dst (.slice (some ⟨w.heap.size, 0, none⟩) n n)) w') :
 wpList P ops Q (o :: rest) a w := by
 obtain ⟨i, z, e1, e2, e3, e4⟩ := h2; exact wpList_make_full w hg l c t hop base e i z size h1 e1 e2 e3 kl kc L C n hl hc hL hC (by rw [e4]; exact b2) b3 b4 (fun w' h g => hK w' ⟨_, h⟩ g)
section
variable {α : Type} {P : α -> List Value -> Prop} {sz base e : Nat} {w : World} {l : List α}
theorem wpList_cpy {Pr : Program} {ops : Array Oper} {rest : List Oper} {o : Oper} {a : Act} {Q : Exit -> Act -> World -> Prop} (hgd : o.guard = none) (d s : Operand) (t : TypeId)
 (hop : o.op = .call { callee := .builtin .copy, args := #[d, s], argTypes := #[t, t] }) {n g : Nat} {v2 : Value} {xs : List Value}
 (ht : Pr.underlying t = some (.slice e)) (hs : (Pr.info? e).map (·.size) = some sz) (hp : Shp P sz)
 (hd : a.eval d = .slice (some ⟨g, 0, none⟩) n n) (ho : w.ownsRow base e sz (.slice (some ⟨g, 0, none⟩) n n) n xs) (hv2 : a.eval s = v2) (hr : RowX w sz P v2 l) (hl : l.length = n) (hpos : 0 < n)
 (h : ∀ w', OwnX w' base e sz P (.slice (some ⟨g, 0, none⟩) n n) l -> w.grownBy w' (some g) -> wpList Pr ops Q rest (a.put o.dst (goInt n)) w') : wpList Pr ops Q (o :: rest) a w := by
 obtain ⟨ra, rc, rfl, _, hr⟩ := hr
 rcases hr with rfl | ⟨b, ro, rfl, hlt, hx⟩
 · simp at hl; omega
 · obtain ⟨news, hf, hc⟩ := flat_of hp l ro hx
   obtain ⟨hxl, ho⟩ := ho
   rcases ho with ⟨e0, _⟩ | ⟨g', cap, cur, e0, hb, hg, hnc, hm, hcs, htk⟩
   · cases e0
   · cases e0
     have hlen := hf.len hp; have hmin : Nat.min l.length n = n := by rw [hl]; exact Nat.min_self n
     have hrun := run_copy_any (P := Pr) w t t o.type e sz g n n ⟨b, ro, none⟩ l.length rc cur e news ht hs hg (by rw [hmin, hlen, hl]) (fun j u hj => by rw [Go.WideShapes.add_plain]; exact hc j u hj) (by rw [hlen, hl, hcs]; exact Nat.le_refl _) (hf.ones hp)
     rw [hmin] at hrun; refine wpList_plain hgd fun K hK => ?_; unfold Oper.wp execOp; simp only [hop, resolve, invoke, builtin, Sem.run_bind, Sem.run_pure, Result.andThen_ok, List.map_toArray, List.map_cons, List.map_nil, hd, hv2, hrun]; refine hK _ _ (h _ ?_ ?_)
     · refine ⟨news, hf, hlen, .inr ⟨g, n, _, by rw [hl], hb, setRow_heap w g _ _ e _ hg, by rw [hl]; exact Nat.le_refl _, hm, ?_, ?_⟩⟩
       · have hz : (news ++ cur.toList.drop news.length).length = n * sz := by
          rw [List.length_append, List.length_drop, hlen, hl, Array.length_toList, hcs]; omega
         simpa using hz
       · rw [<- hlen]; simp
     · exact ⟨rfl, rfl, rfl, by simp [World.setRow], fun k hk hne => setRow_other w g k _ (by intro e2; subst e2; exact hne rfl)⟩
end
end Ow
namespace Ow2
end Ow2
theorem Ow.shp_mthx (w : World) : Ow.Shp (MthX w) 9 := by
 rintro x ys ⟨vp, vc, vk, rfl, h1, h2, h3, _⟩; obtain ⟨_, _, rfl, _⟩ := h1.len; obtain ⟨_, _, rfl, _⟩ := h2.len; obtain ⟨_, _, rfl, _⟩ := h3.len; exact ⟨rfl, by intro u hu; simp [mthXL] at hu; rcases hu with rfl | rfl | rfl | rfl | rfl | rfl | rfl | rfl | rfl <;> rfl⟩
theorem Ow.info_z {P : Program} {t : TypeId} {s z b : Nat} (h : (P.info? t).map (fun i => (i.zero.map (fun z => z.cells.size), i.size, i.bytes)) = some (some z, s, b)) : ∃ i z', P.info? t = some i /\ i.zero = some z' /\ i.size = s /\ i.bytes = b := by
 cases hi : P.info? t with
 | none => rw [hi] at h; cases h
 | some i =>
   rw [hi] at h; simp only [Option.map_some, Option.some.injEq, Prod.mk.injEq] at h; cases hz : i.zero with
   | none => rw [hz] at h; cases h.1
   | some z' => exact ⟨i, z', rfl, hz, h.2.1, h.2.2⟩
theorem cpy_str (l : List Pp.Bs) (v : Value) (w : World) (h : RowX w 1 StrX v l) (hn : l.length <= 100000) :
 Calls Tryz.prog 36 #[v] w fun e w' => ∃ v', e = .returned v' /\ Ow.OwnX w' w.heap.size 9 1 StrX v' l /\ Below w.heap.size w w' := by
 have HR := hide h; obtain ⟨a, c, rfl, _⟩ := h.len; obtain ⟨n, hl⟩ : ∃ n, n = l.length := ⟨_, rfl⟩; have HL := hide hl; rw [<- hl] at hn HR ⊢; clear h hl; by_cases h0 : n = 0
 · subst h0
   have HN : Hid (l = []) := hide (List.length_eq_zero_iff.1 HL.out.symm); go_enter Tryz.func36, Tryz.ntmps36; go_wp2_with fail; go_ret; rw [HN.out]; exact ⟨_, rfl, Ow.OwnX.nil _ _ _ _ _, Below.refl _ _⟩
 · have hne : (n : Int) ≠ 0 := by omega
   have HI := hide (Ow.info_z Ow.i_str); have HSZ : Hid ((Tryz.prog.info? 9).map (·.size) = some 1) := hide (by obtain ⟨i0, z0, hi, hz, hz1, hz2⟩ := HI.out; rw [hi, Option.map_some, hz1])
   go_enter Tryz.func36, Tryz.ntmps36
   go_wp2_with (at_make; refine Ow.wpList_mk _ rfl _ _ 33 rfl w.heap.size 9 1 16 Tryz.underlying33 HI.out .i64 .i64 _ _ n rfl rfl rfl rfl (by omega) (by unfold maxLen; omega) (Nat.le_refl _) ?_)
   intro w1 xs hown1 hgrow1; have hB1 : Below w.heap.size w w1 := Below.grown (Below.refl _ _) hgrow1 (Nat.le_refl _) (fun k hk => by cases hk)
   have HO := hide hown1; have HB1 := hide hB1; have HR1 := hide (HR.out.on hB1 fun _ _ h => h); clear hown1 hgrow1 hB1
   go_wp2_with (refine Ow.wpList_cpy rfl (.tmp 10) (.tmp 11) 33 rfl (base := w.heap.size) Tryz.underlying33 HSZ.out Ow.shp_str rfl HO.out rfl HR1.out HL.out.symm (by omega) ?_)
   intro w2 hown2 hgrow2; have HB2 := hide (Below.grown HB1.out hgrow2 HB1.out.size (fun k hk => by cases hk; exact Nat.le_refl _))
   have HO2 := hide hown2; clear hown2 hgrow2; go_wp2_with fail; go_ret; exact ⟨_, rfl, HO2.out, HB2.out⟩
theorem cpy_fld (l : List Pp.Fld) (v : Value) (w : World) (h : RowX w 4 FldX v l) (hn : l.length <= 100000) :
 Calls Tryz.prog 37 #[v] w fun e w' => ∃ v', e = .returned v' /\ Ow.OwnX w' w.heap.size 88 4 FldX v' l /\ Below w.heap.size w w' := by
 have HR := hide h; obtain ⟨a, c, rfl, _⟩ := h.len; obtain ⟨n, hl⟩ : ∃ n, n = l.length := ⟨_, rfl⟩; have HL := hide hl; rw [<- hl] at hn HR ⊢; clear h hl; by_cases h0 : n = 0
 · subst h0
   have HN : Hid (l = []) := hide (List.length_eq_zero_iff.1 HL.out.symm); go_enter Tryz.func37, Tryz.ntmps37; go_wp2_with fail; go_ret; rw [HN.out]; exact ⟨_, rfl, Ow.OwnX.nil _ _ _ _ _, Below.refl _ _⟩
 · have hne : (n : Int) ≠ 0 := by omega
   have HI := hide (Ow.info_z Ow.i_fld); have HSZ : Hid ((Tryz.prog.info? 88).map (·.size) = some 4) := hide (by obtain ⟨i0, z0, hi, hz, hz1, hz2⟩ := HI.out; rw [hi, Option.map_some, hz1])
   go_enter Tryz.func37, Tryz.ntmps37
   go_wp2_with (at_make; refine Ow.wpList_mk _ rfl _ _ 34 rfl w.heap.size 88 4 48 Tryz.underlying34 HI.out .i64 .i64 _ _ n rfl rfl rfl rfl (by omega) (by unfold maxLen; omega) (Nat.le_refl _) ?_)
   intro w1 xs hown1 hgrow1; have hB1 : Below w.heap.size w w1 := Below.grown (Below.refl _ _) hgrow1 (Nat.le_refl _) (fun k hk => by cases hk)
   have HO := hide hown1; have HB1 := hide hB1; have HR1 := hide (HR.out.on hB1 fun _ _ h => h); clear hown1 hgrow1 hB1
   go_wp2_with (refine Ow.wpList_cpy rfl (.tmp 10) (.tmp 11) 34 rfl (base := w.heap.size) Tryz.underlying34 HSZ.out Ow.shp_fld rfl HO.out rfl HR1.out HL.out.symm (by omega) ?_)
   intro w2 hown2 hgrow2; have HB2 := hide (Below.grown HB1.out hgrow2 HB1.out.size (fun k hk => by cases hk; exact Nat.le_refl _))
   have HO2 := hide hown2; clear hown2 hgrow2; go_wp2_with fail; go_ret; exact ⟨_, rfl, HO2.out, HB2.out⟩
theorem cpy_mth (wp : World) (l : List Pp.XMth) (v : Value) (w : World) (h : RowX w 9 (MthX wp) v l) (hn : l.length <= 100000) :
 Calls Tryz.prog 38 #[v] w fun e w' => ∃ v', e = .returned v' /\ Ow.OwnX w' w.heap.size 29 9 (MthX wp) v' l /\ Below w.heap.size w w' := by
 have HR := hide h; obtain ⟨a, c, rfl, _⟩ := h.len; obtain ⟨n, hl⟩ : ∃ n, n = l.length := ⟨_, rfl⟩; have HL := hide hl; rw [<- hl] at hn HR ⊢; clear h hl; by_cases h0 : n = 0
 · subst h0
   have HN : Hid (l = []) := hide (List.length_eq_zero_iff.1 HL.out.symm); go_enter Tryz.func38, Tryz.ntmps38; go_wp2_with fail; go_ret; rw [HN.out]; exact ⟨_, rfl, Ow.OwnX.nil _ _ _ _ _, Below.refl _ _⟩
 · have hne : (n : Int) ≠ 0 := by omega
   have HI := hide (Ow.info_z Ow.i_mth); have HSZ : Hid ((Tryz.prog.info? 29).map (·.size) = some 9) := hide (by obtain ⟨i0, z0, hi, hz, hz1, hz2⟩ := HI.out; rw [hi, Option.map_some, hz1])
   go_enter Tryz.func38, Tryz.ntmps38
   go_wp2_with (at_make; refine Ow.wpList_mk _ rfl _ _ 32 rfl w.heap.size 29 9 128 Tryz.underlying32 HI.out .i64 .i64 _ _ n rfl rfl rfl rfl (by omega) (by unfold maxLen; omega) (Nat.le_refl _) ?_)
   intro w1 xs hown1 hgrow1; have hB1 : Below w.heap.size w w1 := Below.grown (Below.refl _ _) hgrow1 (Nat.le_refl _) (fun k hk => by cases hk)
   have HO := hide hown1; have HB1 := hide hB1; have HR1 := hide (HR.out.on hB1 fun _ _ h => h); clear hown1 hgrow1 hB1
   go_wp2_with (refine Ow.wpList_cpy rfl (.tmp 10) (.tmp 11) 32 rfl (base := w.heap.size) Tryz.underlying32 HSZ.out (Ow.shp_mthx wp) rfl HO.out rfl HR1.out HL.out.symm (by omega) ?_)
   intro w2 hown2 hgrow2; have HB2 := hide (Below.grown HB1.out hgrow2 HB1.out.size (fun k hk => by cases hk; exact Nat.le_refl _))
   have HO2 := hide hown2; clear hown2 hgrow2; go_wp2_with fail; go_ret; exact ⟨_, rfl, HO2.out, HB2.out⟩
theorem cpy_ty (l : List Pp.Ty) (v : Value) (w : World) (h : RowX w 2 TyX v l) (hn : l.length <= 100000) :
 Calls Tryz.prog 39 #[v] w fun e w' => ∃ v', e = .returned v' /\ Ow.OwnX w' w.heap.size 23 2 TyX v' l /\ Below w.heap.size w w' := by
 have HR := hide h; obtain ⟨a, c, rfl, _⟩ := h.len; obtain ⟨n, hl⟩ : ∃ n, n = l.length := ⟨_, rfl⟩; have HL := hide hl; rw [<- hl] at hn HR ⊢; clear h hl; by_cases h0 : n = 0
 · subst h0
   have HN : Hid (l = []) := hide (List.length_eq_zero_iff.1 HL.out.symm); go_enter Tryz.func39, Tryz.ntmps39; go_wp2_with fail; go_ret; rw [HN.out]; exact ⟨_, rfl, Ow.OwnX.nil _ _ _ _ _, Below.refl _ _⟩
 · have hne : (n : Int) ≠ 0 := by omega
   have HI := hide (Ow.info_z Ow.i_ty); have HSZ : Hid ((Tryz.prog.info? 23).map (·.size) = some 2) := hide (by obtain ⟨i0, z0, hi, hz, hz1, hz2⟩ := HI.out; rw [hi, Option.map_some, hz1])
   go_enter Tryz.func39, Tryz.ntmps39
   go_wp2_with (at_make; refine Ow.wpList_mk _ rfl _ _ 26 rfl w.heap.size 23 2 24 Tryz.underlying26 HI.out .i64 .i64 _ _ n rfl rfl rfl rfl (by omega) (by unfold maxLen; omega) (Nat.le_refl _) ?_)
   intro w1 xs hown1 hgrow1; have hB1 : Below w.heap.size w w1 := Below.grown (Below.refl _ _) hgrow1 (Nat.le_refl _) (fun k hk => by cases hk)
   have HO := hide hown1; have HB1 := hide hB1; have HR1 := hide (HR.out.on hB1 fun _ _ h => h); clear hown1 hgrow1 hB1
   go_wp2_with (refine Ow.wpList_cpy rfl (.tmp 10) (.tmp 11) 26 rfl (base := w.heap.size) Tryz.underlying26 HSZ.out Ow.shp_ty rfl HO.out rfl HR1.out HL.out.symm (by omega) ?_)
   intro w2 hown2 hgrow2; have HB2 := hide (Below.grown HB1.out hgrow2 HB1.out.size (fun k hk => by cases hk; exact Nat.le_refl _))
   have HO2 := hide hown2; clear hown2 hgrow2; go_wp2_with fail; go_ret; exact ⟨_, rfl, HO2.out, HB2.out⟩
theorem cpy_ins (l : List Pp.XIns) (v : Value) (w : World) (h : RowX w 4 InsX v l) (hn : l.length <= 100000) :
 Calls Tryz.prog 40 #[v] w fun e w' => ∃ v', e = .returned v' /\ Ow.OwnX w' w.heap.size 45 4 InsX v' l /\ Below w.heap.size w w' := by
 have HR := hide h; obtain ⟨a, c, rfl, _⟩ := h.len; obtain ⟨n, hl⟩ : ∃ n, n = l.length := ⟨_, rfl⟩; have HL := hide hl; rw [<- hl] at hn HR ⊢; clear h hl; by_cases h0 : n = 0
 · subst h0
   have HN : Hid (l = []) := hide (List.length_eq_zero_iff.1 HL.out.symm); go_enter Tryz.func40, Tryz.ntmps40; go_wp2_with fail; go_ret; rw [HN.out]; exact ⟨_, rfl, Ow.OwnX.nil _ _ _ _ _, Below.refl _ _⟩
 · have hne : (n : Int) ≠ 0 := by omega
   have HI := hide (Ow.info_z Ow.i_ins); have HSZ : Hid ((Tryz.prog.info? 45).map (·.size) = some 4) := hide (by obtain ⟨i0, z0, hi, hz, hz1, hz2⟩ := HI.out; rw [hi, Option.map_some, hz1])
   go_enter Tryz.func40, Tryz.ntmps40
   go_wp2_with (at_make; refine Ow.wpList_mk _ rfl _ _ 24 rfl w.heap.size 45 4 48 Tryz.underlying24 HI.out .i64 .i64 _ _ n rfl rfl rfl rfl (by omega) (by unfold maxLen; omega) (Nat.le_refl _) ?_)
   intro w1 xs hown1 hgrow1; have hB1 : Below w.heap.size w w1 := Below.grown (Below.refl _ _) hgrow1 (Nat.le_refl _) (fun k hk => by cases hk)
   have HO := hide hown1; have HB1 := hide hB1; have HR1 := hide (HR.out.on hB1 fun _ _ h => h); clear hown1 hgrow1 hB1
   go_wp2_with (refine Ow.wpList_cpy rfl (.tmp 10) (.tmp 11) 24 rfl (base := w.heap.size) Tryz.underlying24 HSZ.out Ow.shp_ins rfl HO.out rfl HR1.out HL.out.symm (by omega) ?_)
   intro w2 hown2 hgrow2; have HB2 := hide (Below.grown HB1.out hgrow2 HB1.out.size (fun k hk => by cases hk; exact Nat.le_refl _))
   have HO2 := hide hown2; clear hown2 hgrow2; go_wp2_with fail; go_ret; exact ⟨_, rfl, HO2.out, HB2.out⟩
theorem cpy_ctc (l : List Pp.Ctc) (v : Value) (w : World) (h : RowX w 4 CtcX v l) (hn : l.length <= 100000) :
 Calls Tryz.prog 41 #[v] w fun e w' => ∃ v', e = .returned v' /\ Ow.OwnX w' w.heap.size 113 4 CtcX v' l /\ Below w.heap.size w w' := by
 have HR := hide h; obtain ⟨a, c, rfl, _⟩ := h.len; obtain ⟨n, hl⟩ : ∃ n, n = l.length := ⟨_, rfl⟩; have HL := hide hl; rw [<- hl] at hn HR ⊢; clear h hl; by_cases h0 : n = 0
 · subst h0
   have HN : Hid (l = []) := hide (List.length_eq_zero_iff.1 HL.out.symm); go_enter Tryz.func41, Tryz.ntmps41; go_wp2_with fail; go_ret; rw [HN.out]; exact ⟨_, rfl, Ow.OwnX.nil _ _ _ _ _, Below.refl _ _⟩
 · have hne : (n : Int) ≠ 0 := by omega
   have HI := hide (Ow.info_z Ow.i_ctc); have HSZ : Hid ((Tryz.prog.info? 113).map (·.size) = some 4) := hide (by obtain ⟨i0, z0, hi, hz, hz1, hz2⟩ := HI.out; rw [hi, Option.map_some, hz1])
   go_enter Tryz.func41, Tryz.ntmps41
   go_wp2_with (at_make; refine Ow.wpList_mk _ rfl _ _ 27 rfl w.heap.size 113 4 40 Tryz.underlying27 HI.out .i64 .i64 _ _ n rfl rfl rfl rfl (by omega) (by unfold maxLen; omega) (Nat.le_refl _) ?_)
   intro w1 xs hown1 hgrow1; have hB1 : Below w.heap.size w w1 := Below.grown (Below.refl _ _) hgrow1 (Nat.le_refl _) (fun k hk => by cases hk)
   have HO := hide hown1; have HB1 := hide hB1; have HR1 := hide (HR.out.on hB1 fun _ _ h => h); clear hown1 hgrow1 hB1
   go_wp2_with (refine Ow.wpList_cpy rfl (.tmp 10) (.tmp 11) 27 rfl (base := w.heap.size) Tryz.underlying27 HSZ.out Ow.shp_ctc rfl HO.out rfl HR1.out HL.out.symm (by omega) ?_)
   intro w2 hown2 hgrow2; have HB2 := hide (Below.grown HB1.out hgrow2 HB1.out.size (fun k hk => by cases hk; exact Nat.le_refl _))
   have HO2 := hide hown2; clear hown2 hgrow2; go_wp2_with fail; go_ret; exact ⟨_, rfl, HO2.out, HB2.out⟩
end Go.Proofs.YtjlappamkfjlkabGreatDoor

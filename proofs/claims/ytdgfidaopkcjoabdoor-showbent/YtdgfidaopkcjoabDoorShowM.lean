/- What show's writer says of types, fields. -/
import Derived.Test.YtdgfidaopkcjoabDoorShowL
import Derived.Deep.RegionHeld
namespace Go.Proofs.YtdgfidaopkcjoabDoor
open Go.RowKit
set_option linter.unusedVariables false
set_option linter.unusedSimpArgs false

namespace Sh
def tyS (t : Pp.Ty) : List Pp.Bs := (Pp.tyW t).map Pp.wtx
end Sh
set_option maxRecDepth 100000 in
set_option maxHeartbeats 2000000 in
theorem typeWords_any (t : Pp.Ty) (h : Pp.okTy t) (w : World) :
    Calls Tryd.prog 26 #[.agg #[.int .i64 t.kind, .string ⟨t.name.toArray⟩]] w fun e w' => ∃ g, e = .returned (.slice (some ⟨g, 0, none⟩) (Sh.tyS t).length (Sh.tyS t).length) ∧ w'.heap[g]? = some (.cells (Sh.strsA (Sh.tyS t)) 9 (0, 0)) ∧ Below w.heap.size w w' := by
  obtain ⟨k, n⟩ := t
  have hk : k = 1 ∨ k = 2 ∨ k = 4 ∨ k = 3 ∨ k = 5 := by
    rcases h with ⟨h, _⟩ | ⟨h, _⟩ <;> simp only at h <;> omega
  clear h
  have hN : ∀ (c1 c2 : Array Value) (t1 t2 : TypeId), ((w.alloc (.cells c1 t1)).alloc (.cells c2 t2)).heap[w.heap.size + 1]? = some (.cells c2 t2 (0, 0)) := fun c1 c2 t1 t2 => by
    have := heap_alloc_new (w.alloc (.cells c1 t1)) (.cells c2 t2)
    simpa using this
  have HN := hide hN
  have HB : Hid (∀ (c1 c2 : Array Value) (t1 t2 : TypeId), Below w.heap.size w ((w.alloc (.cells c1 t1)).alloc (.cells c2 t2))) := hide fun c1 c2 t1 t2 => ((Below.refl _ _).alloc (Nat.le_refl _) _).alloc (by simp) _
  clear hN
  rcases hk with rfl | rfl | rfl | rfl | rfl
  · go_enter Tryd.func26, Tryd.ntmps26
    go_wp2_with fail
    go_ret
    exact ⟨_, rfl, HN.out _ _ _ _, HB.out _ _ _ _⟩
  · go_enter Tryd.func26, Tryd.ntmps26
    go_wp2_with fail
    go_ret
    exact ⟨_, rfl, HN.out _ _ _ _, HB.out _ _ _ _⟩
  · go_enter Tryd.func26, Tryd.ntmps26
    go_wp2_with fail
    go_ret
    exact ⟨_, rfl, HN.out _ _ _ _, HB.out _ _ _ _⟩
  · go_enter Tryd.func26, Tryd.ntmps26
    go_wp2_with fail
    go_ret
    exact ⟨_, rfl, HN.out _ _ _ _, HB.out _ _ _ _⟩
  · go_enter Tryd.func26, Tryd.ntmps26
    go_wp2_with fail
    go_ret
    exact ⟨_, rfl, HN.out _ _ _ _, HB.out _ _ _ _⟩

theorem tyS_len (t : Pp.Ty) : (Sh.tyS t).length ≤ 3 := by
  unfold Sh.tyS Pp.tyW
  repeat (first | split | simp)

/-- What a writer says of words that lie in memory. -/
theorem say_blk (B b g n c : Nat) (ws : List Pp.Bs) (arr : Array Value) (harr : arr = Sh.strsA ws) (hn : n = ws.length) (l : List UInt8) (v : Value) (w : World) (hw : Sh.Wr B w b l v) (hg : w.heap[g]? = some (.cells arr 9 (0, 0))) (hn2 : n ≤ 1000000) (hle : l.length + (Pp.sayL ws).length ≤ 1000000000) :
    Calls Tryd.prog 27 #[.pointer (some ⟨b, 0, none⟩), .slice (some ⟨g, 0, none⟩) n c] w fun e w' => e = .returned (.tuple #[]) ∧ (∃ v', Sh.Wr B w' b (l ++ Pp.sayL ws) v') ∧ Sh.Ke B w w' := by
  subst hn harr
  refine say_any B b g 0 _ ws l v _ hw (fun wq hq j s hs => ?_) hn2 hle
  rw [hq.cell hg (by decide) (by decide), Nat.zero_add, Sh.strsA]
  simp [hs]
/-- What a writer says of the words of a type that lie in memory. -/
theorem say_type (B b g : Nat) (ws : List Pp.Bs) (l : List UInt8) (v : Value) (w : World) (hw : Sh.Wr B w b l v) (hg : w.heap[g]? = some (.cells (Sh.strsA ws) 9 (0, 0))) (hn : ws.length ≤ 3) (hle : l.length + (Pp.sayL ws).length ≤ 1000000000) :
    Calls Tryd.prog 27 #[.pointer (some ⟨b, 0, none⟩), .slice (some ⟨g, 0, none⟩) ws.length ws.length] w fun e w' => e = .returned (.tuple #[]) ∧ (∃ v', Sh.Wr B w' b (l ++ Pp.sayL ws) v') ∧ Sh.Ke B w w' := by
  refine say_any B b g 0 _ ws l v _ hw (fun wq hq j s hs => ?_) (by omega) hle
  rw [hq.cell hg (by decide) (by decide), Nat.zero_add, Sh.strsA]
  simp [hs]

set_option maxRecDepth 100000 in
set_option maxHeartbeats 4000000 in
theorem wfield_any (B b : Nat) (f : Pp.Fld) (hok : Pp.okFld f) (l : List UInt8) (v : Value) (w : World) (hw : Sh.Wr B w b l v) (hle : l.length + (Pp.wordsT (Pp.fldW f)).length ≤ 1000000000) :
    Calls Tryd.prog 30 #[.pointer (some ⟨b, 0, none⟩), .agg #[.string ⟨f.name.toArray⟩, .int .i64 f.ty.kind, .string ⟨f.ty.name.toArray⟩, .bool f.stat]] w fun e w' => e = .returned (.tuple #[]) ∧ (∃ v', Sh.Wr B w' b (l ++ Pp.wordsT (Pp.fldW f)) v') ∧ Sh.Ke B w w' := by
  have hT := hide (fun w => typeWords_any f.ty hok.2 w)
  have hTl := tyS_len f.ty
  obtain ⟨n, ty, st⟩ := f
  simp only at hT hTl ⊢
  have hR : Pp.wordsT (Pp.fldW ⟨n, ty, st⟩) = Pp.sayL [if st = true then Pp.wStatic else Pp.wField, n, Pp.wColon] ++ (Pp.sayL (Sh.tyS ty) ++ Pp.sayL [Pp.wSemi]) := by
    simp only [Pp.wordsT, Pp.fldW, List.map_append, ← Pp.sayL_app]
    rfl
  rw [hR] at hle ⊢
  clear hR hok
  simp only [List.length_append] at hle
  have HLE := hide hle
  have hE := hide (fun w => either_any st ⟨Pp.wStatic.toArray⟩ ⟨Pp.wField.toArray⟩ w)
  generalize Sh.tyS ty = ts at *
  obtain ⟨l1, hl1⟩ : ∃ l1, l1 = Pp.sayL [if st = true then Pp.wStatic else Pp.wField, n, Pp.wColon] := ⟨_, rfl⟩
  rw [← hl1] at HLE ⊢
  have HL1 := hide hl1
  clear hl1
  have hwz := hw.alloc (.cells #[.string ⟨n.toArray⟩, .int .i64 ty.kind, .string ⟨ty.name.toArray⟩, .bool st] 37)
  have hkz := Sh.Ke.alloc hw.2.1 (.cells #[.string ⟨n.toArray⟩, .int .i64 ty.kind, .string ⟨ty.name.toArray⟩, .bool st] 37)
  have hz : ∀ wx, Sh.Ke B (w.alloc (.cells #[.string ⟨n.toArray⟩, .int .i64 ty.kind, .string ⟨ty.name.toArray⟩, .bool st] 37)) wx → ∀ j, wx.cell? ⟨w.heap.size, j, none⟩ = #[Value.string ⟨n.toArray⟩, .int .i64 ty.kind, .string ⟨ty.name.toArray⟩, .bool st][j]? := fun wx hx j => hx.cell (heap_alloc_new w _) (by decide) (by decide) j
  have HZ := hide hz
  have HWZ := hide hwz
  have HKZ := hide hkz
  clear hz hwz hkz hw hle
  go_enter Tryd.func30, Tryd.ntmps30
  go_wp2_with fail
  generalize w.alloc (.cells #[.string ⟨n.toArray⟩, .int .i64 ty.kind, .string ⟨ty.name.toArray⟩, .bool st] 37) = wz at *
  have hK : Hid (∀ wx, Sh.Ke B wz wx → wx.cell? ⟨w.heap.size, 0, none⟩ = some (.string ⟨n.toArray⟩) ∧ wx.cell? ⟨w.heap.size, 3, none⟩ = some (.bool st)) := hide fun wx hx => ⟨HZ.out wx hx 0, HZ.out wx hx 3⟩
  have hD : Hid (Sh.Ke B wz wz.drew) := hide (Sh.Ke.drew _ _)
  have hA : Hid (∀ o, Sh.Ke B wz (wz.alloc o).drew) := hide fun o => (Sh.Ke.alloc HWZ.out.2.1 o).trans (Sh.Ke.drew _ _)
  have HS : Hid (Calls Tryd.prog 27 #[.pointer (some ⟨b, 0, none⟩), .slice (some ⟨wz.heap.size, 0, none⟩) 3 3] (wz.alloc (.cells #[.string (if st = true then ⟨Pp.wStatic.toArray⟩ else ⟨Pp.wField.toArray⟩), .string ⟨n.toArray⟩, .string ⟨#[58]⟩] 9)).drew fun e w' => e = .returned (.tuple #[]) ∧ (∃ v', Sh.Wr B w' b (l ++ l1) v') ∧ Sh.Ke B (wz.alloc (.cells #[.string (if st = true then ⟨Pp.wStatic.toArray⟩ else ⟨Pp.wField.toArray⟩), .string ⟨n.toArray⟩, .string ⟨#[58]⟩] 9)).drew w') :=
    hide (by rw [HL1.out] at HLE ⊢; exact say_blk B b wz.heap.size 3 3 _ _ (by cases st <;> rfl) rfl l v _ ((HWZ.out.alloc _).drew) (heap_alloc_new wz _) (by omega) (by have := HLE.out; omega))
  generalize hkw : (if st = true then (⟨Pp.wStatic.toArray⟩ : ByteArray) else ⟨Pp.wField.toArray⟩) = KW at *
  clear hkw
  clear HL1
  go_region_held (fun wx => wx.cell? ⟨w.heap.size, 0, none⟩ = some (.string ⟨n.toArray⟩) ∧ wx.cell? ⟨w.heap.size, 3, none⟩ = some (.bool st)) (first | exact hK.out _ HK6.out | exact hK.out _ hD.out | exact hK.out _ (hA.out _))
    (first | (go_at_call 28; refine (hE.out _).mono ?_; rintro e w5 ⟨rfl, hw5⟩; subst hw5) | (go_at_call 27; refine HS.out.mono ?_; rintro e w6 ⟨rfl, h61, h62⟩; have HK6 : Hid (Sh.Ke B wz w6) := hide ((hA.out _).trans h62); have HW6 := hide h61; clear h61 h62))
  obtain ⟨v6, hW6⟩ := HW6.out
  have HW6' := hide hW6
  have q1 : w6.cell? ⟨w.heap.size, 1, none⟩ = some (.int .i64 ty.kind) := HZ.out w6 HK6.out 1
  have q2 : w6.cell? ⟨w.heap.size, 2, none⟩ = some (.string ⟨ty.name.toArray⟩) := HZ.out w6 HK6.out 2
  have HK6' := hide (HKZ.out.trans HK6.out)
  clear hW6 HW6 HK6 HZ HKZ hK hD hA HS hE HWZ
  go_wp2_with fail
  refine (hT.out _).mono ?_
  rintro e w7 ⟨g, rfl, hg, hb7⟩
  have HS7 := hide (say_type B b g ts (l ++ l1) v6 w7 (HW6'.out.below hb7) hg hTl (by have := HLE.out; rw [List.length_append]; omega))
  have HK7 := hide (HK6'.out.trans (Sh.Ke.below HW6'.out.2.1 hb7))
  clear hb7 hg hT q1 q2 HW6' HK6'
  go_wp2_with fail
  refine HS7.out.mono ?_
  rintro e w8 ⟨rfl, ⟨v8, h81⟩, h82⟩
  have HS8 := hide (say_new B b 1 1 [Pp.wSemi] #[.string ⟨#[59]⟩] rfl rfl _ v8 w8 h81 (by omega) (by have := HLE.out; rw [List.length_append, List.length_append]; omega))
  have HK8 := hide (HK7.out.trans h82)
  clear h81 h82 HS7 HK7
  go_wp2_with fail
  refine HS8.out.mono ?_
  rintro e w9 ⟨rfl, ⟨v9, h91⟩, h92⟩
  rw [List.append_assoc, List.append_assoc] at h91
  have HW9 := hide h91
  have HK9 := hide (HK8.out.trans h92)
  clear h91 h92 HS8 HK8
  go_wp2_with fail
  exact bodyPost_end (v := .tuple #[]) (by simp [results, Tryd.results30, go_sem]) rfl ⟨rfl, ⟨v9, HW9.out⟩, HK9.out⟩

end Go.Proofs.YtdgfidaopkcjoabDoor

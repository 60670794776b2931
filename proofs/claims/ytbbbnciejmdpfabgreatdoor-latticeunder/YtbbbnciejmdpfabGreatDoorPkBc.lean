/- What the laws of this seat lean on: 2 texts. -/
import Derived.Test.YtbbbnciejmdpfabGreatDoorPkBa
import Derived.Test.YtbbbnciejmdpfabGreatDoorPkBb
import Derived.Test.YtbbbnciejmdpfabGreatDoorPkAe
import Derived.Laws.CopyOwn
import Derived.OwnWalk
set_option maxRecDepth 100000
set_option maxHeartbeats 64000000
set_option linter.unusedVariables false
set_option linter.unusedSimpArgs false
namespace Go.Proofs.YtbbbnciejmdpfabGreatDoor
open Go.RowKit
theorem ix3_0 (a b c : Value) (w : World) : (Instr.index 144 (.agg #[a, b, c]) (.int .i64 0)).run Tryz.prog w = .ok a w := by kernel_rfl
theorem ix3_1 (a b c : Value) (w : World) : (Instr.index 144 (.agg #[a, b, c]) (.int .i64 1)).run Tryz.prog w = .ok b w := by kernel_rfl
theorem ix3_2 (a b c : Value) (w : World) : (Instr.index 144 (.agg #[a, b, c]) (.int .i64 2)).run Tryz.prog w = .ok c w := by kernel_rfl
theorem check_any (N : Net) (l : List Pp.XCls) (bs : List Nat) (hok : NetOk N l bs) (v : Value) (w0 w : World) (A : Nat -> Prop) (h : Rdy N w0 w A) (hrow : Stb (fun k => N.T k \/ A k) w 1 PtrX v bs) :
 Calls Tryz.prog 73 #[v] w fun e w' => e = .returned (.int .i64 (Ly.checkF N l bs)) /\ Rdy N w0 w' A /\ Fx N.T w w' := by
 have HOk := hide hok; have HRdy := hide h; have HC0 := hide (fun wr x (hT : N.T x) (hr : Rdy N w0 wr A) (hf : Fx N.T w wr) => (memberFault_any N l bs v x w0 wr A hok hr (hrow.on (hf.mono fun k _ hk => Or.inl hk) fun _ _ h => h).row hT).mono (R' := fun e w' => e = .returned (.int .i64 (Ly.memF l (N.cl x))) /\ Rdy N w0 w' A /\ Fx N.T wr w') fun e w' h2 => ⟨h2.1, hr.on h2.2, Fx.below h2.2⟩); have HC1 := hide (fun wr x (hT : N.T x) (hr : Rdy N w0 wr A) (hf : Fx N.T w wr) => superFault_any N l bs hok v x hT w0 wr A hr (by obtain ⟨a, c, e, _⟩ := hrow; exact ⟨a, _, c, e⟩))
 have HC2 := hide (fun wr x (hT : N.T x) (hr : Rdy N w0 wr A) (hf : Fx N.T w wr) => ifaceFault_any N l bs hok v x hT w0 wr A hr (hrow.on (hf.mono fun k _ hk => Or.inl hk) fun _ _ h => h)); obtain ⟨va, vc, rfl, _⟩ := hrow.row.len; obtain ⟨nb, hnb⟩ : ∃ q, q = bs.length := ⟨_, rfl⟩; have HN := hide hnb; have hn1 : nb <= 1000 := by rw [hnb]; exact hok.len
 rw [<- hnb] at hrow HC0 HC1 HC2 ⊢; have HRow := hide hrow; obtain ⟨r, hr⟩ : ∃ r, r = Ly.checkF N l bs := ⟨_, rfl⟩
 have HR0 : Hid (∀ {x : Int}, Ly.firstL (fun b => Ly.memF l (N.cl b)) bs = x -> x ≠ 0 -> r = x) := hide fun h1 h2 => by
  rw [hr]; unfold Ly.checkF; rw [if_neg (by rw [h1]; exact h2), h1]
 have HR1 : Hid (Ly.firstL (fun b => Ly.memF l (N.cl b)) bs = 0 -> ∀ {x : Int}, Ly.firstL (Ly.supF N) bs = x -> x ≠ 0 -> r = x) := hide fun h0 {x} h1 h2 => by
  rw [hr]; unfold Ly.checkF; rw [if_pos h0, if_neg (by rw [h1]; exact h2), h1]
 have HR2 : Hid (Ly.firstL (fun b => Ly.memF l (N.cl b)) bs = 0 -> Ly.firstL (Ly.supF N) bs = 0 -> ∀ {x : Int}, Ly.firstL (Ly.ifcF N bs) bs = x -> r = x) := hide fun h0 h1 {x} h2 => by
  rw [hr]; unfold Ly.checkF; rw [if_pos h0, if_pos h1, h2]
 have hmf : ∀ (fn : Fn) (first cap : Array Value) (w : World), (Instr.makeFunc fn first cap).run Tryz.prog w = .ok (.func fn first cap) w := fun _ _ _ _ => rfl
 have hx0 := ix3_0; have hx1 := ix3_1; have hx2 := ix3_2; rw [<- hr]; clear hr hrow h hok hnb; go_enter Tryz.func73, Tryz.ntmps73; go_wp2_with fail
 go_loopw [15] (fun i wr => ∃ k : Nat, k <= 3 /\ i = .int .i64 k /\ Hid (Rdy N w0 wr A) /\ Hid (Fx N.T w wr) /\ Hid (1 <= k -> Ly.firstL (fun b => Ly.memF l (N.cl b)) bs = 0) /\ Hid (2 <= k -> Ly.firstL (Ly.supF N) bs = 0) /\ Hid (3 <= k -> Ly.firstL (Ly.ifcF N bs) bs = 0)) (fun i _ => 3 - (intOf i).toNat)
 case atStart => exact ⟨0, by omega, rfl, HRdy, hide (Fx.refl _ _), hide (fun h => absurd h (by decide)), hide (fun h => absurd h (by decide)), hide (fun h => absurd h (by decide))⟩
 case round =>
  obtain ⟨k, hk, rfl, HQ, HF, G0, G1, G2⟩ := hrel; by_cases h0 : k = 0
  · subst h0
    clear G0 G1 G2; go_wp2_with fail
    go_loopw [20] (fun i wr => ∃ j : Nat, j <= nb /\ i = .int .i64 j /\ Hid (Rdy N w0 wr A) /\ Hid (Fx N.T w wr) /\ Hid (Ly.firstL (fun b => Ly.memF l (N.cl b)) (bs.take j) = 0)) (fun i _ => nb - (intOf i).toNat)
    case atStart => exact ⟨0, Nat.zero_le _, rfl, HQ, HF, hide rfl⟩
    case round =>
     clear HQ HF; obtain ⟨j, hj, rfl, HQ, HF, HZ⟩ := hrel; by_cases hjl : j < nb
     · obtain ⟨x, hx⟩ : ∃ x, bs[j]? = some x := ⟨bs[j]'(by rw [<- HN.out]; exact hjl), List.getElem?_eq_getElem _⟩
       have HRr := (HRow.out.on (HF.out.mono fun k _ hk => Or.inl hk) fun _ _ h => h).row; rw [HN.out] at HRr; obtain ⟨g, o, rfl, ys, wf, hc⟩ := Ow.row_at' HRr hx; have hwf : ys = [.pointer (some ⟨x, 0, none⟩)] := wf; subst hwf; have r0 := hc wr (Below.refl _ _) 0 _ rfl; rw [Nat.add_zero, Nat.mul_one] at r0; have HSt := hide (fun hf => Ly.firstL_stop (f := fun b => Ly.memF l (N.cl b)) HZ.out hx hf); have HTk := hide (Ly.firstL_take (f := fun b => Ly.memF l (N.cl b)) HZ.out hx); have HCall := hide (HC0.out wr x ((HOk.out.mem x).2 (List.mem_of_getElem? hx)) HQ.out HF.out); obtain ⟨lf, hlf⟩ : ∃ q, q = (fun b => Ly.memF l (N.cl b)) x := ⟨_, rfl⟩; have HLf := hide hlf
       try simp only at hlf
       try simp only at HSt
       try simp only at HTk
       rw [<- hlf] at HCall HSt HTk; clear hc wf hx HRr HZ hlf; have hjl' : (j : Int) < (nb : Int) := by omega
       go_wp2_with fail; refine HCall.out.mono ?_; rintro e w5 ⟨rfl, hr5, hf5⟩; have HQ5 := hide hr5; have HF5 := hide (HF.out.trans hf5); clear HCall hr5 hf5; by_cases hl0 : lf = 0
       · subst hl0
         have HT5 := hide HTk.out; clear HSt HTk; go_wp2_with fail
         go_roundw
         case rel => first | exact ⟨j + 1, by omega, by go_num, HQ5, HF5, HT5⟩ | ((repeat apply Exists.intro); exact ⟨⟨j + 1, by omega, by go_num, HQ5, HF5, HT5⟩, rfl⟩)
         case measure => simp [intOf]; omega
       · have hl0' : (lf != 0) = true := by simpa using hl0
         have HRes : Hid (r = lf) := hide (by
          have hlf2 := HSt.out hl0; have h3 := HR0.out hlf2
          exact h3 hl0)
         clear HSt HTk hl0; go_wp2_with fail; go_ret; exact ⟨by rw [HRes.out]; rfl, HQ5.out, HF5.out⟩
     · have HP0 : Hid (Ly.firstL (fun b => Ly.memF l (N.cl b)) bs = 0) := hide (by
        have h1 := HZ.out
        rwa [List.take_of_length_le (by rw [<- HN.out]; omega)] at h1)
       have hnl : ¬ ((j : Int) < (nb : Int)) := by omega
       clear HZ; go_wp2_with fail
       go_roundw
       case rel => exact ⟨1, by omega, rfl, HQ, HF, hide (fun _ => HP0.out), hide (fun h => absurd h (by decide)), hide (fun h => absurd h (by decide))⟩
       case measure => simp [intOf]
  by_cases h1 : k = 1
  · subst h1
    have HP0 := hide (G0.out (by decide))
    clear G0 G1 G2; go_wp2_with fail
    go_loopw [20] (fun i wr => ∃ j : Nat, j <= nb /\ i = .int .i64 j /\ Hid (Rdy N w0 wr A) /\ Hid (Fx N.T w wr) /\ Hid (Ly.firstL (Ly.supF N) (bs.take j) = 0)) (fun i _ => nb - (intOf i).toNat)
    case atStart => exact ⟨0, Nat.zero_le _, rfl, HQ, HF, hide rfl⟩
    case round =>
     clear HQ HF; obtain ⟨j, hj, rfl, HQ, HF, HZ⟩ := hrel; by_cases hjl : j < nb
     · obtain ⟨x, hx⟩ : ∃ x, bs[j]? = some x := ⟨bs[j]'(by rw [<- HN.out]; exact hjl), List.getElem?_eq_getElem _⟩
       have HRr := (HRow.out.on (HF.out.mono fun k _ hk => Or.inl hk) fun _ _ h => h).row; rw [HN.out] at HRr; obtain ⟨g, o, rfl, ys, wf, hc⟩ := Ow.row_at' HRr hx; have hwf : ys = [.pointer (some ⟨x, 0, none⟩)] := wf; subst hwf; have r0 := hc wr (Below.refl _ _) 0 _ rfl; rw [Nat.add_zero, Nat.mul_one] at r0; have HSt := hide (fun hf => Ly.firstL_stop (f := Ly.supF N) HZ.out hx hf); have HTk := hide (Ly.firstL_take (f := Ly.supF N) HZ.out hx); have HCall := hide (HC1.out wr x ((HOk.out.mem x).2 (List.mem_of_getElem? hx)) HQ.out HF.out); obtain ⟨lf, hlf⟩ : ∃ q, q = (Ly.supF N) x := ⟨_, rfl⟩; have HLf := hide hlf
       try simp only at hlf
       try simp only at HSt
       try simp only at HTk
       rw [<- hlf] at HCall HSt HTk; clear hc wf hx HRr HZ hlf; have hjl' : (j : Int) < (nb : Int) := by omega
       go_wp2_with fail; refine HCall.out.mono ?_; rintro e w5 ⟨rfl, hr5, hf5⟩; have HQ5 := hide hr5; have HF5 := hide (HF.out.trans hf5); clear HCall hr5 hf5; by_cases hl0 : lf = 0
       · subst hl0
         have HT5 := hide HTk.out; clear HSt HTk; go_wp2_with fail
         go_roundw
         case rel => first | exact ⟨j + 1, by omega, by go_num, HQ5, HF5, HT5⟩ | ((repeat apply Exists.intro); exact ⟨⟨j + 1, by omega, by go_num, HQ5, HF5, HT5⟩, rfl⟩)
         case measure => simp [intOf]; omega
       · have hl0' : (lf != 0) = true := by simpa using hl0
         have HRes : Hid (r = lf) := hide (by
          have hlf2 := HSt.out hl0; have h3 := HR1.out HP0.out hlf2
          exact h3 hl0)
         clear HSt HTk hl0; go_wp2_with fail; go_ret; exact ⟨by rw [HRes.out]; rfl, HQ5.out, HF5.out⟩
     · have HP1 : Hid (Ly.firstL (Ly.supF N) bs = 0) := hide (by
        have h1 := HZ.out
        rwa [List.take_of_length_le (by rw [<- HN.out]; omega)] at h1)
       have hnl : ¬ ((j : Int) < (nb : Int)) := by omega
       clear HZ; go_wp2_with fail
       go_roundw
       case rel => exact ⟨2, by omega, rfl, HQ, HF, hide (fun _ => HP0.out), hide (fun _ => HP1.out), hide (fun h => absurd h (by decide))⟩
       case measure => simp [intOf]
  by_cases h2 : k = 2
  · subst h2
    have HP0 := hide (G0.out (by decide))
    have HP1 := hide (G1.out (by decide))
    clear G0 G1 G2; go_wp2_with fail
    go_loopw [20] (fun i wr => ∃ j : Nat, j <= nb /\ i = .int .i64 j /\ Hid (Rdy N w0 wr A) /\ Hid (Fx N.T w wr) /\ Hid (Ly.firstL (Ly.ifcF N bs) (bs.take j) = 0)) (fun i _ => nb - (intOf i).toNat)
    case atStart => exact ⟨0, Nat.zero_le _, rfl, HQ, HF, hide rfl⟩
    case round =>
     clear HQ HF; obtain ⟨j, hj, rfl, HQ, HF, HZ⟩ := hrel; by_cases hjl : j < nb
     · obtain ⟨x, hx⟩ : ∃ x, bs[j]? = some x := ⟨bs[j]'(by rw [<- HN.out]; exact hjl), List.getElem?_eq_getElem _⟩
       have HRr := (HRow.out.on (HF.out.mono fun k _ hk => Or.inl hk) fun _ _ h => h).row; rw [HN.out] at HRr; obtain ⟨g, o, rfl, ys, wf, hc⟩ := Ow.row_at' HRr hx; have hwf : ys = [.pointer (some ⟨x, 0, none⟩)] := wf; subst hwf; have r0 := hc wr (Below.refl _ _) 0 _ rfl; rw [Nat.add_zero, Nat.mul_one] at r0; have HSt := hide (fun hf => Ly.firstL_stop (f := Ly.ifcF N bs) HZ.out hx hf); have HTk := hide (Ly.firstL_take (f := Ly.ifcF N bs) HZ.out hx); have HCall := hide (HC2.out wr x ((HOk.out.mem x).2 (List.mem_of_getElem? hx)) HQ.out HF.out); obtain ⟨lf, hlf⟩ : ∃ q, q = (Ly.ifcF N bs) x := ⟨_, rfl⟩; have HLf := hide hlf
       try simp only at hlf
       try simp only at HSt
       try simp only at HTk
       rw [<- hlf] at HCall HSt HTk; clear hc wf hx HRr HZ hlf; have hjl' : (j : Int) < (nb : Int) := by omega
       go_wp2_with fail; refine HCall.out.mono ?_; rintro e w5 ⟨rfl, hr5, hf5⟩; have HQ5 := hide hr5; have HF5 := hide (HF.out.trans hf5); clear HCall hr5 hf5; by_cases hl0 : lf = 0
       · subst hl0
         have HT5 := hide HTk.out; clear HSt HTk; go_wp2_with fail
         go_roundw
         case rel => first | exact ⟨j + 1, by omega, by go_num, HQ5, HF5, HT5⟩ | ((repeat apply Exists.intro); exact ⟨⟨j + 1, by omega, by go_num, HQ5, HF5, HT5⟩, rfl⟩)
         case measure => simp [intOf]; omega
       · have hl0' : (lf != 0) = true := by simpa using hl0
         have HRes : Hid (r = lf) := hide (by
          have hlf2 := HSt.out hl0; have h3 := HR2.out HP0.out HP1.out hlf2
          exact h3)
         clear HSt HTk hl0; go_wp2_with fail; go_ret; exact ⟨by rw [HRes.out]; rfl, HQ5.out, HF5.out⟩
     · have HP2 : Hid (Ly.firstL (Ly.ifcF N bs) bs = 0) := hide (by
        have h1 := HZ.out
        rwa [List.take_of_length_le (by rw [<- HN.out]; omega)] at h1)
       have hnl : ¬ ((j : Int) < (nb : Int)) := by omega
       clear HZ; go_wp2_with fail
       go_roundw
       case rel => exact ⟨3, by omega, rfl, HQ, HF, hide (fun _ => HP0.out), hide (fun _ => HP1.out), hide (fun _ => HP2.out)⟩
       case measure => simp [intOf]
  have h3 : k = 3 := by omega
  subst h3; have HRes := hide (HR2.out (G0.out (by decide)) (G1.out (by decide)) (G2.out (by decide)))
  clear G0 G1 G2; go_wp2_with fail; go_ret; exact ⟨by rw [HRes.out]; rfl, HQ.out, HF.out⟩
namespace Ow
theorem run_copy_any {P : Program} (w : World) (dT sT ty elem : TypeId) (sz g dLen dCap : Nat) (a : Addr) (sLen sCap : Nat) (cur : Array Value) (t : TypeId) (cs : List Value)
 (hu : P.underlying dT = some (.slice elem)) (hs : (P.info? elem).map (·.size) = some sz)
 (hg : w.heap[g]? = some (.cells cur t (0, 0))) (hn : cs.length = Nat.min sLen dLen * sz)
 (hsrc : ∀ j v, cs[j]? = some v -> w.cell? (a.add j) = some v) (hfit : cs.length <= cur.size) (h1 : ∀ v ∈ cs, v.oneCell' = true) :
 (Builtin.copy_ #[dT, sT] ty #[.slice (some ⟨g, 0, none⟩) dLen dCap, .slice (some a) sLen sCap]).run P w =
   .ok (goInt (Nat.min sLen dLen)) (w.setRow g (cs ++ cur.toList.drop cs.length).toArray) := by
 have hl := run_loadCells_list (P := P) w a cs hsrc; have hst := run_storeCells_at P g 0 t cs 0 cur w hg (by simpa using hfit) h1
 cases hq : P.info? elem with
 | none => simp [hq] at hs
 | some i =>
   have hi : i.size = sz := by simpa [hq] using hs
   simp only [Nat.zero_add, Nat.add_zero, List.take_zero, List.nil_append] at hst; simp [Builtin.copy_, run_underlying hu, Builtin.lenOf, Builtin.firstCells, sizeOf, typeInfo, hq, hi, <- hn, hl, hst]
theorem wpList_mk {P : Program} (w : World) {ops : Array Oper} {rest : List Oper} {o : Oper} {a : Act} {Q : Exit -> Act -> World -> Prop}
 (hg : o.guard = none) (l c : Operand) (t : TypeId) (hop : o.op = Op.makeSlice t l c)
 (base : Nat) (e : TypeId) (size bytes : Nat) (h1 : P.underlying t = some (.slice e)) (h2 : ∃ i z, P.info? e = some i /\ i.zero = some z /\ i.size = size /\ i.bytes = bytes)
 (kl kc : IntKind) (L C : Int) (n : Nat) (hl : a.eval l = .int kl L) (hc : a.eval c = .int kc C) (hL : L = (n : Int)) (hC : C = (n : Int)) (b2 : bytes * n <= 281474976710656) (b3 : n <= maxLen) (b4 : base <= w.heap.size)
 (hK : ∀ w', (∃ xs, w'.ownsRow base e size (.slice (some ⟨w.heap.size, 0, none⟩) n n) n xs) -> w.grownBy w' none -> wpList P ops Q rest (a.put o.dst (.slice (some ⟨w.heap.size, 0, none⟩) n n)) w') :
 wpList P ops Q (o :: rest) a w := by
 obtain ⟨i, z, e1, e2, e3, e4⟩ := h2; exact wpList_make_full w hg l c t hop base e i z size h1 e1 e2 e3 kl kc L C n hl hc hL hC (by rw [e4]; exact b2) b3 b4 (fun w' h g => hK w' ⟨_, h⟩ g)
section
variable {α : Type} {P : α -> List Value -> Prop} {sz base e : Nat} {w : World} {l : List α}
theorem wpList_cpy {Pr : Program} {ops : Array Oper} {rest : List Oper} {o : Oper} {a : Act} {Q : Exit -> Act -> World -> Prop} (hgd : o.guard = none) (d s : Operand) (t : TypeId)
 (hop : o.op = .call { callee := .builtin .copy, args := #[d, s], argTypes := #[t, t] }) {n g : Nat} {v2 : Value} {xs : List Value}
 (ht : Pr.underlying t = some (.slice e)) (hs : (Pr.info? e).map (·.size) = some sz) (hp : Shp P sz)
 (hd : a.eval d = .slice (some ⟨g, 0, none⟩) n n) (ho : w.ownsRow base e sz (.slice (some ⟨g, 0, none⟩) n n) n xs) (hv2 : a.eval s = v2) (hr : RowX w sz P v2 l) (hl : l.length = n) (hpos : 0 < n)
 (h : ∀ w', OwnX w' base e sz P (.slice (some ⟨g, 0, none⟩) n n) l -> w.grownBy w' (some g) -> wpList Pr ops Q rest (a.put o.dst (goInt n)) w') : wpList Pr ops Q (o :: rest) a w := by
 obtain ⟨ra, rc, rfl, _, hr⟩ := hr
 rcases hr with rfl | ⟨b, ro, rfl, hlt, hx⟩
 · simp at hl; omega
 · obtain ⟨news, hf, hc⟩ := flat_of hp l ro hx
   obtain ⟨hxl, ho⟩ := ho
   rcases ho with ⟨e0, _⟩ | ⟨g', cap, cur, e0, hb, hg, hnc, hm, hcs, htk⟩
   · cases e0
   · cases e0
     have hlen := hf.len hp; have hmin : Nat.min l.length n = n := by rw [hl]; exact Nat.min_self n
     have hrun := run_copy_any (P := Pr) w t t o.type e sz g n n ⟨b, ro, none⟩ l.length rc cur e news ht hs hg (by rw [hmin, hlen, hl]) (fun j u hj => by rw [Go.WideShapes.add_plain]; exact hc j u hj) (by rw [hlen, hl, hcs]; exact Nat.le_refl _) (hf.ones hp)
     rw [hmin] at hrun; refine wpList_plain hgd fun K hK => ?_; unfold Oper.wp execOp; simp only [hop, resolve, invoke, builtin, Sem.run_bind, Sem.run_pure, Result.andThen_ok, List.map_toArray, List.map_cons, List.map_nil, hd, hv2, hrun]; refine hK _ _ (h _ ?_ ?_)
     · refine ⟨news, hf, hlen, .inr ⟨g, n, _, by rw [hl], hb, setRow_heap w g _ _ e _ hg, by rw [hl]; exact Nat.le_refl _, hm, ?_, ?_⟩⟩
       · have hz : (news ++ cur.toList.drop news.length).length = n * sz := by
          rw [List.length_append, List.length_drop, hlen, hl, Array.length_toList, hcs]; omega
         simpa using hz
       · rw [<- hlen]; simp
     · exact ⟨rfl, rfl, rfl, by simp [World.setRow], fun k hk hne => setRow_other w g k _ (by intro e2; subst e2; exact hne rfl)⟩
end
end Ow
namespace Ow2
end Ow2
theorem Ow.shp_mthx (w : World) : Ow.Shp (MthX w) 9 := by
 rintro x ys ⟨vp, vc, vk, rfl, h1, h2, h3, _⟩; obtain ⟨_, _, rfl, _⟩ := h1.len; obtain ⟨_, _, rfl, _⟩ := h2.len; obtain ⟨_, _, rfl, _⟩ := h3.len; exact ⟨rfl, by intro u hu; simp [mthXL] at hu; rcases hu with rfl | rfl | rfl | rfl | rfl | rfl | rfl | rfl | rfl <;> rfl⟩
theorem Ow.info_z {P : Program} {t : TypeId} {s z b : Nat} (h : (P.info? t).map (fun i => (i.zero.map (fun z => z.cells.size), i.size, i.bytes)) = some (some z, s, b)) : ∃ i z', P.info? t = some i /\ i.zero = some z' /\ i.size = s /\ i.bytes = b := by
 cases hi : P.info? t with
 | none => rw [hi] at h; cases h
 | some i =>
   rw [hi] at h; simp only [Option.map_some, Option.some.injEq, Prod.mk.injEq] at h; cases hz : i.zero with
   | none => rw [hz] at h; cases h.1
   | some z' => exact ⟨i, z', rfl, hz, h.2.1, h.2.2⟩
theorem cpy_str (l : List Pp.Bs) (v : Value) (w : World) (h : RowX w 1 StrX v l) (hn : l.length <= 100000) :
 Calls Tryz.prog 38 #[v] w fun e w' => ∃ v', e = .returned v' /\ Ow.OwnX w' w.heap.size 9 1 StrX v' l /\ Below w.heap.size w w' := by
 have HR := hide h; obtain ⟨a, c, rfl, _⟩ := h.len; obtain ⟨n, hl⟩ : ∃ n, n = l.length := ⟨_, rfl⟩; have HL := hide hl; rw [<- hl] at hn HR ⊢; clear h hl; by_cases h0 : n = 0
 · subst h0
   have HN : Hid (l = []) := hide (List.length_eq_zero_iff.1 HL.out.symm); go_enter Tryz.func38, Tryz.ntmps38; go_wp2_with fail; go_ret; rw [HN.out]; exact ⟨_, rfl, Ow.OwnX.nil _ _ _ _ _, Below.refl _ _⟩
 · have hne : (n : Int) ≠ 0 := by omega
   have HI := hide (Ow.info_z Ow.i_str); have HSZ : Hid ((Tryz.prog.info? 9).map (·.size) = some 1) := hide (by obtain ⟨i0, z0, hi, hz, hz1, hz2⟩ := HI.out; rw [hi, Option.map_some, hz1])
   go_enter Tryz.func38, Tryz.ntmps38
   go_wp2_with (at_make; refine Ow.wpList_mk _ rfl _ _ 29 rfl w.heap.size 9 1 16 Tryz.underlying29 HI.out .i64 .i64 _ _ n rfl rfl rfl rfl (by omega) (by unfold maxLen; omega) (Nat.le_refl _) ?_)
   intro w1 xs hown1 hgrow1; have hB1 : Below w.heap.size w w1 := Below.grown (Below.refl _ _) hgrow1 (Nat.le_refl _) (fun k hk => by cases hk)
   have HO := hide hown1; have HB1 := hide hB1; have HR1 := hide (HR.out.on hB1 fun _ _ h => h); clear hown1 hgrow1 hB1
   go_wp2_with (refine Ow.wpList_cpy rfl (.tmp 10) (.tmp 11) 29 rfl (base := w.heap.size) Tryz.underlying29 HSZ.out Ow.shp_str rfl HO.out rfl HR1.out HL.out.symm (by omega) ?_)
   intro w2 hown2 hgrow2; have HB2 := hide (Below.grown HB1.out hgrow2 HB1.out.size (fun k hk => by cases hk; exact Nat.le_refl _))
   have HO2 := hide hown2; clear hown2 hgrow2; go_wp2_with fail; go_ret; exact ⟨_, rfl, HO2.out, HB2.out⟩
theorem cpy_fld (l : List Pp.Fld) (v : Value) (w : World) (h : RowX w 4 FldX v l) (hn : l.length <= 100000) :
 Calls Tryz.prog 39 #[v] w fun e w' => ∃ v', e = .returned v' /\ Ow.OwnX w' w.heap.size 43 4 FldX v' l /\ Below w.heap.size w w' := by
 have HR := hide h; obtain ⟨a, c, rfl, _⟩ := h.len; obtain ⟨n, hl⟩ : ∃ n, n = l.length := ⟨_, rfl⟩; have HL := hide hl; rw [<- hl] at hn HR ⊢; clear h hl; by_cases h0 : n = 0
 · subst h0
   have HN : Hid (l = []) := hide (List.length_eq_zero_iff.1 HL.out.symm); go_enter Tryz.func39, Tryz.ntmps39; go_wp2_with fail; go_ret; rw [HN.out]; exact ⟨_, rfl, Ow.OwnX.nil _ _ _ _ _, Below.refl _ _⟩
 · have hne : (n : Int) ≠ 0 := by omega
   have HI := hide (Ow.info_z Ow.i_fld); have HSZ : Hid ((Tryz.prog.info? 43).map (·.size) = some 4) := hide (by obtain ⟨i0, z0, hi, hz, hz1, hz2⟩ := HI.out; rw [hi, Option.map_some, hz1])
   go_enter Tryz.func39, Tryz.ntmps39
   go_wp2_with (at_make; refine Ow.wpList_mk _ rfl _ _ 30 rfl w.heap.size 43 4 48 Tryz.underlying30 HI.out .i64 .i64 _ _ n rfl rfl rfl rfl (by omega) (by unfold maxLen; omega) (Nat.le_refl _) ?_)
   intro w1 xs hown1 hgrow1; have hB1 : Below w.heap.size w w1 := Below.grown (Below.refl _ _) hgrow1 (Nat.le_refl _) (fun k hk => by cases hk)
   have HO := hide hown1; have HB1 := hide hB1; have HR1 := hide (HR.out.on hB1 fun _ _ h => h); clear hown1 hgrow1 hB1
   go_wp2_with (refine Ow.wpList_cpy rfl (.tmp 10) (.tmp 11) 30 rfl (base := w.heap.size) Tryz.underlying30 HSZ.out Ow.shp_fld rfl HO.out rfl HR1.out HL.out.symm (by omega) ?_)
   intro w2 hown2 hgrow2; have HB2 := hide (Below.grown HB1.out hgrow2 HB1.out.size (fun k hk => by cases hk; exact Nat.le_refl _))
   have HO2 := hide hown2; clear hown2 hgrow2; go_wp2_with fail; go_ret; exact ⟨_, rfl, HO2.out, HB2.out⟩
theorem cpy_mth (wp : World) (l : List Pp.XMth) (v : Value) (w : World) (h : RowX w 9 (MthX wp) v l) (hn : l.length <= 100000) :
 Calls Tryz.prog 40 #[v] w fun e w' => ∃ v', e = .returned v' /\ Ow.OwnX w' w.heap.size 48 9 (MthX wp) v' l /\ Below w.heap.size w w' := by
 have HR := hide h; obtain ⟨a, c, rfl, _⟩ := h.len; obtain ⟨n, hl⟩ : ∃ n, n = l.length := ⟨_, rfl⟩; have HL := hide hl; rw [<- hl] at hn HR ⊢; clear h hl; by_cases h0 : n = 0
 · subst h0
   have HN : Hid (l = []) := hide (List.length_eq_zero_iff.1 HL.out.symm); go_enter Tryz.func40, Tryz.ntmps40; go_wp2_with fail; go_ret; rw [HN.out]; exact ⟨_, rfl, Ow.OwnX.nil _ _ _ _ _, Below.refl _ _⟩
 · have hne : (n : Int) ≠ 0 := by omega
   have HI := hide (Ow.info_z Ow.i_mth); have HSZ : Hid ((Tryz.prog.info? 48).map (·.size) = some 9) := hide (by obtain ⟨i0, z0, hi, hz, hz1, hz2⟩ := HI.out; rw [hi, Option.map_some, hz1])
   go_enter Tryz.func40, Tryz.ntmps40
   go_wp2_with (at_make; refine Ow.wpList_mk _ rfl _ _ 31 rfl w.heap.size 48 9 128 Tryz.underlying31 HI.out .i64 .i64 _ _ n rfl rfl rfl rfl (by omega) (by unfold maxLen; omega) (Nat.le_refl _) ?_)
   intro w1 xs hown1 hgrow1; have hB1 : Below w.heap.size w w1 := Below.grown (Below.refl _ _) hgrow1 (Nat.le_refl _) (fun k hk => by cases hk)
   have HO := hide hown1; have HB1 := hide hB1; have HR1 := hide (HR.out.on hB1 fun _ _ h => h); clear hown1 hgrow1 hB1
   go_wp2_with (refine Ow.wpList_cpy rfl (.tmp 10) (.tmp 11) 31 rfl (base := w.heap.size) Tryz.underlying31 HSZ.out (Ow.shp_mthx wp) rfl HO.out rfl HR1.out HL.out.symm (by omega) ?_)
   intro w2 hown2 hgrow2; have HB2 := hide (Below.grown HB1.out hgrow2 HB1.out.size (fun k hk => by cases hk; exact Nat.le_refl _))
   have HO2 := hide hown2; clear hown2 hgrow2; go_wp2_with fail; go_ret; exact ⟨_, rfl, HO2.out, HB2.out⟩
theorem cpy_ty (l : List Pp.Ty) (v : Value) (w : World) (h : RowX w 2 TyX v l) (hn : l.length <= 100000) :
 Calls Tryz.prog 41 #[v] w fun e w' => ∃ v', e = .returned v' /\ Ow.OwnX w' w.heap.size 36 2 TyX v' l /\ Below w.heap.size w w' := by
 have HR := hide h; obtain ⟨a, c, rfl, _⟩ := h.len; obtain ⟨n, hl⟩ : ∃ n, n = l.length := ⟨_, rfl⟩; have HL := hide hl; rw [<- hl] at hn HR ⊢; clear h hl; by_cases h0 : n = 0
 · subst h0
   have HN : Hid (l = []) := hide (List.length_eq_zero_iff.1 HL.out.symm); go_enter Tryz.func41, Tryz.ntmps41; go_wp2_with fail; go_ret; rw [HN.out]; exact ⟨_, rfl, Ow.OwnX.nil _ _ _ _ _, Below.refl _ _⟩
 · have hne : (n : Int) ≠ 0 := by omega
   have HI := hide (Ow.info_z Ow.i_ty); have HSZ : Hid ((Tryz.prog.info? 36).map (·.size) = some 2) := hide (by obtain ⟨i0, z0, hi, hz, hz1, hz2⟩ := HI.out; rw [hi, Option.map_some, hz1])
   go_enter Tryz.func41, Tryz.ntmps41
   go_wp2_with (at_make; refine Ow.wpList_mk _ rfl _ _ 44 rfl w.heap.size 36 2 24 Tryz.underlying44 HI.out .i64 .i64 _ _ n rfl rfl rfl rfl (by omega) (by unfold maxLen; omega) (Nat.le_refl _) ?_)
   intro w1 xs hown1 hgrow1; have hB1 : Below w.heap.size w w1 := Below.grown (Below.refl _ _) hgrow1 (Nat.le_refl _) (fun k hk => by cases hk)
   have HO := hide hown1; have HB1 := hide hB1; have HR1 := hide (HR.out.on hB1 fun _ _ h => h); clear hown1 hgrow1 hB1
   go_wp2_with (refine Ow.wpList_cpy rfl (.tmp 10) (.tmp 11) 44 rfl (base := w.heap.size) Tryz.underlying44 HSZ.out Ow.shp_ty rfl HO.out rfl HR1.out HL.out.symm (by omega) ?_)
   intro w2 hown2 hgrow2; have HB2 := hide (Below.grown HB1.out hgrow2 HB1.out.size (fun k hk => by cases hk; exact Nat.le_refl _))
   have HO2 := hide hown2; clear hown2 hgrow2; go_wp2_with fail; go_ret; exact ⟨_, rfl, HO2.out, HB2.out⟩
theorem cpy_ins (l : List Pp.XIns) (v : Value) (w : World) (h : RowX w 4 InsX v l) (hn : l.length <= 100000) :
 Calls Tryz.prog 42 #[v] w fun e w' => ∃ v', e = .returned v' /\ Ow.OwnX w' w.heap.size 50 4 InsX v' l /\ Below w.heap.size w w' := by
 have HR := hide h; obtain ⟨a, c, rfl, _⟩ := h.len; obtain ⟨n, hl⟩ : ∃ n, n = l.length := ⟨_, rfl⟩; have HL := hide hl; rw [<- hl] at hn HR ⊢; clear h hl; by_cases h0 : n = 0
 · subst h0
   have HN : Hid (l = []) := hide (List.length_eq_zero_iff.1 HL.out.symm); go_enter Tryz.func42, Tryz.ntmps42; go_wp2_with fail; go_ret; rw [HN.out]; exact ⟨_, rfl, Ow.OwnX.nil _ _ _ _ _, Below.refl _ _⟩
 · have hne : (n : Int) ≠ 0 := by omega
   have HI := hide (Ow.info_z Ow.i_ins); have HSZ : Hid ((Tryz.prog.info? 50).map (·.size) = some 4) := hide (by obtain ⟨i0, z0, hi, hz, hz1, hz2⟩ := HI.out; rw [hi, Option.map_some, hz1])
   go_enter Tryz.func42, Tryz.ntmps42
   go_wp2_with (at_make; refine Ow.wpList_mk _ rfl _ _ 45 rfl w.heap.size 50 4 48 Tryz.underlying45 HI.out .i64 .i64 _ _ n rfl rfl rfl rfl (by omega) (by unfold maxLen; omega) (Nat.le_refl _) ?_)
   intro w1 xs hown1 hgrow1; have hB1 : Below w.heap.size w w1 := Below.grown (Below.refl _ _) hgrow1 (Nat.le_refl _) (fun k hk => by cases hk)
   have HO := hide hown1; have HB1 := hide hB1; have HR1 := hide (HR.out.on hB1 fun _ _ h => h); clear hown1 hgrow1 hB1
   go_wp2_with (refine Ow.wpList_cpy rfl (.tmp 10) (.tmp 11) 45 rfl (base := w.heap.size) Tryz.underlying45 HSZ.out Ow.shp_ins rfl HO.out rfl HR1.out HL.out.symm (by omega) ?_)
   intro w2 hown2 hgrow2; have HB2 := hide (Below.grown HB1.out hgrow2 HB1.out.size (fun k hk => by cases hk; exact Nat.le_refl _))
   have HO2 := hide hown2; clear hown2 hgrow2; go_wp2_with fail; go_ret; exact ⟨_, rfl, HO2.out, HB2.out⟩
theorem cpy_ctc (l : List Pp.Ctc) (v : Value) (w : World) (h : RowX w 4 CtcX v l) (hn : l.length <= 100000) :
 Calls Tryz.prog 43 #[v] w fun e w' => ∃ v', e = .returned v' /\ Ow.OwnX w' w.heap.size 52 4 CtcX v' l /\ Below w.heap.size w w' := by
 have HR := hide h; obtain ⟨a, c, rfl, _⟩ := h.len; obtain ⟨n, hl⟩ : ∃ n, n = l.length := ⟨_, rfl⟩; have HL := hide hl; rw [<- hl] at hn HR ⊢; clear h hl; by_cases h0 : n = 0
 · subst h0
   have HN : Hid (l = []) := hide (List.length_eq_zero_iff.1 HL.out.symm); go_enter Tryz.func43, Tryz.ntmps43; go_wp2_with fail; go_ret; rw [HN.out]; exact ⟨_, rfl, Ow.OwnX.nil _ _ _ _ _, Below.refl _ _⟩
 · have hne : (n : Int) ≠ 0 := by omega
   have HI := hide (Ow.info_z Ow.i_ctc); have HSZ : Hid ((Tryz.prog.info? 52).map (·.size) = some 4) := hide (by obtain ⟨i0, z0, hi, hz, hz1, hz2⟩ := HI.out; rw [hi, Option.map_some, hz1])
   go_enter Tryz.func43, Tryz.ntmps43
   go_wp2_with (at_make; refine Ow.wpList_mk _ rfl _ _ 46 rfl w.heap.size 52 4 40 Tryz.underlying46 HI.out .i64 .i64 _ _ n rfl rfl rfl rfl (by omega) (by unfold maxLen; omega) (Nat.le_refl _) ?_)
   intro w1 xs hown1 hgrow1; have hB1 : Below w.heap.size w w1 := Below.grown (Below.refl _ _) hgrow1 (Nat.le_refl _) (fun k hk => by cases hk)
   have HO := hide hown1; have HB1 := hide hB1; have HR1 := hide (HR.out.on hB1 fun _ _ h => h); clear hown1 hgrow1 hB1
   go_wp2_with (refine Ow.wpList_cpy rfl (.tmp 10) (.tmp 11) 46 rfl (base := w.heap.size) Tryz.underlying46 HSZ.out Ow.shp_ctc rfl HO.out rfl HR1.out HL.out.symm (by omega) ?_)
   intro w2 hown2 hgrow2; have HB2 := hide (Below.grown HB1.out hgrow2 HB1.out.size (fun k hk => by cases hk; exact Nat.le_refl _))
   have HO2 := hide hown2; clear hown2 hgrow2; go_wp2_with fail; go_ret; exact ⟨_, rfl, HO2.out, HB2.out⟩
end Go.Proofs.YtbbbnciejmdpfabGreatDoor

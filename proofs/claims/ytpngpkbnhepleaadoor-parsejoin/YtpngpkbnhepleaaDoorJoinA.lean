/- Small facts that several walks want. What written answers. What Join answers. -/
import Derived.Test.YtpngpkbnhepleaaDoorScan
import Derived.Test.YtpngpkbnhepleaaDoorMgA
import Derived.Lib.ConvBytes
import Derived.Test.YtpngpkbnhepleaaDoorShelf
import Derived.WalkSmall
import Derived.Lib.AppendStr
namespace Go.Proofs.YtpngpkbnhepleaaDoor
open Go.RowKit
set_option linter.unusedVariables false
set_option linter.unusedSimpArgs false

theorem app_size (s t : ByteArray) (h : s.size ≤ 100) (ht : t.size ≤ 100) : (s ++ t).size ≤ maxLen := by
  rw [ByteArray.size_append]; unfold maxLen; omega
theorem wrap64_id (n : Int) (h : -9223372036854775808 ≤ n ∧ n ≤ 9223372036854775807) : wrap64 n = n := by unfold wrap64; omega
theorem below_bytes (w : World) (e : TypeId) (s : ByteArray) : Below w.heap.size w (Lib.bytesWorld w e s) :=
  ⟨rfl, rfl, rfl, by rw [Lib.bytesWorld_size]; omega, fun k hk => Lib.bytesWorld_at_old w e s k hk⟩
def byteV (x : UInt8) : Value := .int .u8 (x.toNat : Int)
def lenOf : Value → Nat | .slice _ n _ => n | _ => 0
theorem own_shape {w : World} {base e size : Nat} {v : Value} {n : Nat} {xs : List Value} (h : w.ownsRow base e size v n xs) : ∃ a cap, v = .slice a n cap := by
  rcases h.2 with ⟨rfl, rfl⟩ | ⟨g, cap, cur, rfl, _⟩
  · exact ⟨none, 0, rfl⟩
  · exact ⟨_, cap, rfl⟩
theorem str_app (a b : List UInt8) : (⟨a.toArray⟩ : ByteArray) ++ ⟨b.toArray⟩ = ⟨(a ++ b).toArray⟩ := by
  apply ByteArray.ext
  rw [ByteArray.data_append]
  show a.toArray ++ b.toArray = (a ++ b).toArray
  apply Array.ext'
  simp
theorem str_size (a : List UInt8) : (⟨a.toArray⟩ : ByteArray).size = a.length := by simp [ByteArray.size]
theorem str_self (s : ByteArray) : (⟨s.data.toList.toArray⟩ : ByteArray) = s := rfl
theorem Num_is (l : List UInt8) (r : Option Int) (h : Lx.numL l = r) (hs : l.length ≤ 1000) (w : World) :
    Calls Tryd.prog 67 #[.string ⟨l.toArray⟩] w fun e w' => e = .returned (.tuple #[.int .i64 (r.getD 0), .bool r.isSome]) ∧ w' = w := by
  have := Num_any ⟨l.toArray⟩ (by rw [str_size]; unfold maxLen; omega) w
  rw [show (⟨l.toArray⟩ : ByteArray).data.toList = l from rfl, h] at this
  exact this

end Go.Proofs.YtpngpkbnhepleaaDoor

namespace Go.Proofs.YtpngpkbnhepleaaDoor
open Go.RowKit
set_option linter.unusedVariables false
set_option linter.unusedSimpArgs false

theorem gTab : Tryd.prog.globalNamed "internal/strconv.uint64pow10" = some 3 := by kernel_rfl
def Tab (w : World) : Prop := Lib.TabIs Tryd.prog w "internal/strconv.uint64pow10" .u64 Lib.pow10Tab
theorem Tab.lt {w : World} (h : Tab w) : 3 < w.heap.size := by
  unfold Tab Lib.TabIs World.var? at h
  simp only [gTab, Option.bind_some] at h
  rcases Nat.lt_or_ge 3 w.heap.size with h' | h'
  · exact h'
  · simp [Array.getElem?_eq_none h'] at h
theorem Tab.keep {w w' : World} {B : Nat} (h : Tab w) (hb : Below B w w') (h0 : 3 < B) : Tab w' := var?_below hb gTab h0 h
theorem Tab.on {w w' : World} (h : Tab w) (hb : Below w.heap.size w w') : Tab w' := h.keep hb h.lt
theorem below_grow (w : World) (k : Nat) (os : Array Obj) : Below w.heap.size w (Sort.grow (w.drewN k) os) := by
  refine ⟨rfl, rfl, rfl, ?_, fun i hi => ?_⟩
  · show w.heap.size ≤ (w.heap ++ os).size
    simp
  · show (w.heap ++ os)[i]? = w.heap[i]?
    rw [Array.getElem?_append_left hi]
theorem Itoa_is (n : Int) (h0 : -2147483648 ≤ n) (h1 : n ≤ 2147483647) (w : World) (ht : Tab w) :
    Calls Tryd.prog 69 #[.int .i64 n] w fun e w' => e = .returned (.string ⟨(Lx.intL n).toArray⟩) ∧ Below w.heap.size w w' := by
  refine (Tryd.strconv_Itoa n (by omega) (by omega) w ht).mono ?_
  rintro e w' ⟨rfl, k, os, rfl⟩
  rw [Lx.itoa_intL n h0 h1]
  exact ⟨rfl, below_grow w k os⟩

theorem sign_is (s : ByteArray) (r : Bool) (h : Lx.signL s.data.toList = r) (hs : s.size ≤ maxLen) (w : World) :
    Calls Tryd.prog 68 #[.string s] w fun e w' => e = .returned (.bool r) ∧ w' = w := by
  have := sign_any s hs w
  rw [h] at this
  exact this
theorem isEmpty_list (l : List UInt8) (h : l ≠ []) : (⟨l.toArray⟩ : ByteArray).toList.isEmpty = false :=
  isEmpty_pos _ (by rw [str_size]; exact List.length_pos_iff.2 h)

set_option maxHeartbeats 2000000 in
theorem written_some (t : Lx.ATok) (l : List UInt8) (h : Lx.wordA t = some l) (hs : t.text.length ≤ maxLen) (w : World) (ht : Tab w) :
    Calls Tryd.prog 40 #[.agg #[.int .i64 t.kind, .string ⟨t.text.toArray⟩, .int .i64 t.num, .int .i64 t.pos]] w fun e w' => e = .returned (.tuple #[.string ⟨l.toArray⟩, .bool true]) ∧ Below w.heap.size w w' := by
  obtain ⟨k, s, n, p⟩ := t
  unfold Lx.wordA at h
  simp only at h hs ⊢
  have hsz : (⟨s.toArray⟩ : ByteArray).size ≤ maxLen := by rw [str_size]; exact hs
  by_cases h1 : k = 1
  · rw [if_pos h1] at h
    split at h
    · rename_i hc
      injection h with h; subst h
      obtain ⟨hc1, hc2⟩ := hc
      subst h1 hc1
      go_enter Tryd.func40, Tryd.ntmps40
      go_wp2_with (go_at_call 23; refine (Name_is _ _ hc2 hsz _).mono ?_; rintro e w' ⟨rfl, rfl⟩)
      go_ret2
      exact ⟨rfl, (Below.refl _ _).alloc (Nat.le_refl _) _⟩
    · cases h
  · rw [if_neg h1] at h
    by_cases h2 : k = 2
    · rw [if_pos h2] at h
      split at h
      · rename_i hc
        injection h with h; subst h
        obtain ⟨hc1, hc2, hc3⟩ := hc
        subst h2 hc1
        have HT : Hid (Tab w) := ht
        clear ht h1 hs hsz
        go_enter Tryd.func40, Tryd.ntmps40
        go_wp2_with fail
        refine (Itoa_is n hc2 hc3 _ (HT.out.on ((Below.refl _ _).alloc (Nat.le_refl _) _))).mono ?_
        rintro e w1 ⟨rfl, hb1⟩
        go_wp2_with fail
        go_ret2
        exact ⟨rfl, ((Below.refl _ _).alloc (Nat.le_refl _) _).trans (hb1.mono (by simp))⟩
      · cases h
    · rw [if_neg h2] at h
      by_cases h3 : k = 3
      · rw [if_pos h3] at h
        split at h
        · rename_i hc
          injection h with h; subst h
          obtain ⟨hc1, hc2⟩ := hc
          subst h3 hc1
          go_enter Tryd.func40, Tryd.ntmps40
          go_wp2_with (go_at_call 68; refine (sign_is _ _ hc2 hsz _).mono ?_; rintro e w' ⟨rfl, rfl⟩)
          go_ret2
          exact ⟨rfl, (Below.refl _ _).alloc (Nat.le_refl _) _⟩
        · cases h
      · rw [if_neg h3] at h; cases h

set_option maxHeartbeats 2000000 in
theorem written_none (t : Lx.ATok) (h : Lx.wordA t = none) (hs : t.text.length ≤ maxLen) (w : World) :
    Calls Tryd.prog 40 #[.agg #[.int .i64 t.kind, .string ⟨t.text.toArray⟩, .int .i64 t.num, .int .i64 t.pos]] w fun e w' => e = .returned (.tuple #[.string ⟨#[]⟩, .bool false]) ∧ Below w.heap.size w w' := by
  obtain ⟨k, s, n, p⟩ := t
  unfold Lx.wordA at h
  simp only at h hs ⊢
  have hsz : (⟨s.toArray⟩ : ByteArray).size ≤ maxLen := by rw [str_size]; exact hs
  by_cases h1 : k = 1
  · rw [if_pos h1] at h
    split at h
    · cases h
    · rename_i hc
      subst h1
      clear h
      by_cases hn : n = 0
      · have hnm : Lx.nameL (⟨s.toArray⟩ : ByteArray).data.toList = false := by
          rw [← Bool.not_eq_true]; exact fun x => hc ⟨hn, x⟩
        clear hc
        subst hn
        go_enter Tryd.func40, Tryd.ntmps40
        go_wp2_with (go_at_call 23; refine (Name_is _ _ hnm hsz _).mono ?_; rintro e w' ⟨rfl, rfl⟩)
        go_ret2
        exact ⟨rfl, (Below.refl _ _).alloc (Nat.le_refl _) _⟩
      · have hn' : (n == 0) = false := by simpa using hn
        clear hc hn
        go_enter Tryd.func40, Tryd.ntmps40
        go_wp2_with fail
        go_ret2
        exact ⟨rfl, (Below.refl _ _).alloc (Nat.le_refl _) _⟩
  · rw [if_neg h1] at h
    have h1' : (k == 1) = false := by simpa using h1
    by_cases h2 : k = 2
    · rw [if_pos h2] at h
      split at h
      · cases h
      · rename_i hc
        subst h2
        clear h h1 h1'
        by_cases hx : s = []
        · subst hx
          have hr : n < -2147483648 ∨ (-2147483648 ≤ n ∧ 2147483647 < n) := by
            by_cases a : -2147483648 ≤ n
            · by_cases b : n ≤ 2147483647
              · exact absurd ⟨rfl, a, b⟩ hc
              · exact .inr ⟨a, by omega⟩
            · exact .inl (by omega)
          clear hc
          rcases hr with hr | ⟨hr1, hr⟩
          all_goals
            go_enter Tryd.func40, Tryd.ntmps40
            go_wp2_with fail
            go_ret2
            exact ⟨rfl, (Below.refl _ _).alloc (Nat.le_refl _) _⟩
        · have hem := isEmpty_list s hx
          clear hc hx hs
          generalize (⟨s.toArray⟩ : ByteArray) = S at *
          go_enter Tryd.func40, Tryd.ntmps40
          go_wp2_with fail
          go_ret2
          exact ⟨rfl, (Below.refl _ _).alloc (Nat.le_refl _) _⟩
    · rw [if_neg h2] at h
      have h2' : (k == 2) = false := by simpa using h2
      by_cases h3 : k = 3
      · rw [if_pos h3] at h
        split at h
        · cases h
        · rename_i hc
          subst h3
          clear h h1 h1' h2 h2'
          by_cases hn : n = 0
          · have hnm : Lx.signL (⟨s.toArray⟩ : ByteArray).data.toList = false := by
              rw [← Bool.not_eq_true]; exact fun x => hc ⟨hn, x⟩
            clear hc
            subst hn
            go_enter Tryd.func40, Tryd.ntmps40
            go_wp2_with (go_at_call 68; refine (sign_is _ _ hnm hsz _).mono ?_; rintro e w' ⟨rfl, rfl⟩)
            go_ret2
            exact ⟨rfl, (Below.refl _ _).alloc (Nat.le_refl _) _⟩
          · have hn' : (n == 0) = false := by simpa using hn
            clear hc hn
            go_enter Tryd.func40, Tryd.ntmps40
            go_wp2_with fail
            go_ret2
            exact ⟨rfl, (Below.refl _ _).alloc (Nat.le_refl _) _⟩
      · have h3' : (k == 3) = false := by simpa using h3
        clear h h1 h2 h3
        go_enter Tryd.func40, Tryd.ntmps40
        go_wp2_with fail
        go_ret2
        exact ⟨rfl, (Below.refl _ _).alloc (Nat.le_refl _) _⟩

end Go.Proofs.YtpngpkbnhepleaaDoor

namespace Go.Proofs.YtpngpkbnhepleaaDoor
open Go.RowKit
set_option linter.unusedVariables false
set_option linter.unusedSimpArgs false

theorem Tryd.info5 : (Tryd.prog.info? 5).map (fun i => (i.zero, i.size, i.bytes)) = some (some (.int .u8 0), 1, 1) := by kernel_rfl
def ToksAt (w : World) (b off : Nat) (ts : List Lx.ATok) : Prop := ∀ (j : Nat) (t : Lx.ATok), ts[j]? = some t →
  w.cell? ⟨b, off + j * 4, none⟩ = some (.int .i64 t.kind) ∧ w.cell? ⟨b, off + j * 4 + 1, none⟩ = some (.string ⟨t.text.toArray⟩) ∧ w.cell? ⟨b, off + j * 4 + 2, none⟩ = some (.int .i64 t.num) ∧ w.cell? ⟨b, off + j * 4 + 3, none⟩ = some (.int .i64 t.pos)
theorem ToksAt.on {w w' : World} {B b off : Nat} {ts : List Lx.ATok} (h : ToksAt w b off ts) (hb : Below B w w') (hlt : b < B) : ToksAt w' b off ts := fun j t ht => by
  obtain ⟨h0, h1, h2, h3⟩ := h j t ht
  exact ⟨(hb.cell (by exact hlt)).trans h0, (hb.cell (by exact hlt)).trans h1, (hb.cell (by exact hlt)).trans h2, (hb.cell (by exact hlt)).trans h3⟩

theorem join_step1 {w wr w2 w3 : World} {B : Nat} {v v' : Value} {acc l : List UInt8} {o : Obj} (hB : B ≤ w.heap.size) (hown : wr.ownsRow B 5 1 v acc.length (acc.map byteV)) (hbel : Below B w wr) (hb2 : Below (wr.alloc o).heap.size (wr.alloc o) w2)
    (hown3 : w3.ownsRow B 5 1 v' (acc.length + (⟨l.toArray⟩ : ByteArray).size) (acc.map byteV ++ Lib.strCells ⟨l.toArray⟩)) (hg : w2.grownBy w3 v.ownBlock) :
    w3.ownsRow B 5 1 v' (acc ++ l).length ((acc ++ l).map byteV) ∧ Below B w w3 := by
  have h0 := hbel.size
  have h1 := hb2.size
  have hl := hown.lt
  refine ⟨?_, ?_⟩
  · rw [List.length_append, List.map_append]
    rw [str_size] at hown3
    exact hown3
  · exact Below.grown ((hbel.alloc (by omega) o).trans (hb2.mono (by simp; omega))) hg (by simp at h1; omega) (fun k hk => (hl k hk).1)
theorem join_step2 {w wr w2 w3 : World} {B : Nat} {v v' : Value} {acc : List UInt8} {o o2 : Obj} (hB : B ≤ w.heap.size) (hown : wr.ownsRow B 5 1 v acc.length (acc.map byteV)) (hbel : Below B w wr) (hb2 : Below (wr.alloc o).heap.size (wr.alloc o) w2)
    (hown3 : w3.ownsRow B 5 1 v' (acc.length + 1) (acc.map byteV ++ [.int .u8 32])) (hg : (w2.alloc o2).grownBy w3 v.ownBlock) :
    w3.ownsRow B 5 1 v' (acc ++ [32]).length ((acc ++ [32]).map byteV) ∧ Below B w w3 := by
  have h0 := hbel.size
  have h1 := hb2.size
  have hl := hown.lt
  refine ⟨?_, ?_⟩
  · rw [List.length_append, List.map_append]
    exact hown3
  · exact Below.grown (((hbel.alloc (by omega) o).trans (hb2.mono (by simp; omega))).alloc (by simp at h1; omega) o2) hg (by simp at h1 ⊢; omega) (fun k hk => (hl k hk).1)
theorem join_step3 {w w3 w4 : World} {B : Nat} {v v' : Value} {acc l : List UInt8} (hB : B ≤ w.heap.size) (hown : w3.ownsRow B 5 1 v acc.length (acc.map byteV)) (hbel : Below B w w3)
    (hown4 : w4.ownsRow B 5 1 v' (acc.length + (⟨l.toArray⟩ : ByteArray).size) (acc.map byteV ++ Lib.strCells ⟨l.toArray⟩)) (hg : w3.grownBy w4 v.ownBlock) :
    w4.ownsRow B 5 1 v' (acc ++ l).length ((acc ++ l).map byteV) ∧ Below B w w4 := by
  have h0 := hbel.size
  have hl := hown.lt
  refine ⟨?_, ?_⟩
  · rw [List.length_append, List.map_append]
    rw [str_size] at hown4
    exact hown4
  · exact Below.grown hbel hg (by omega) (fun k hk => (hl k hk).1)

set_option maxHeartbeats 1000000 in
theorem Join_empty (a : Option Addr) (cap : Nat) (w : World) :
    Calls Tryd.prog 22 #[.slice a 0 cap] w fun e w' => e = .returned (.tuple #[.slice none 0 0, .int .i64 0]) ∧ w' = w := by
  go_enter Tryd.func22, Tryd.ntmps22
  go_wp2
  refine wp_loop_rounds 1 ?_
  rw [rounds_succ]
  go_wp2
  go_ret2
  exact ⟨rfl, rfl⟩

def errOf : Option (List UInt8) → Int | some _ => 0 | none => 4

set_option maxRecDepth 100000 in
set_option maxHeartbeats 4000000 in
theorem Join_any (ts : List Lx.ATok) (b off cap : Nat) (w : World) (hn : ts.length ≤ 6000) (hcap : ts.length ≤ cap) (hb : b < w.heap.size) (ht : Tab w)
    (hc : ToksAt w b off ts) (htx : ∀ t ∈ ts, t.text.length ≤ maxLen) :
    Calls Tryd.prog 22 #[.slice (some ⟨b, off, none⟩) ts.length cap] w fun e w' => ∃ v, e = .returned (.tuple #[v, .int .i64 (errOf (Lx.joinL ts))]) ∧
      w'.ownsRow w.heap.size 5 1 v ((Lx.joinL ts).getD []).length (((Lx.joinL ts).getD []).map byteV) ∧ Below w.heap.size w w' := by
  obtain ⟨R, hR⟩ : ∃ R, R = Lx.joinL ts := ⟨_, rfl⟩
  rw [← hR]
  have HR : Hid (R = Lx.joinGo (ts.drop 0) (decide (0 = 0)) []) := hR
  clear hR
  obtain ⟨len, hlen⟩ : ∃ len, len = ts.length := ⟨_, rfl⟩
  have HL : Hid (len = ts.length) := hlen
  rw [← hlen] at hn hcap ⊢
  clear hlen
  have HT : Hid (Tab w) := ht
  have HC : Hid (ToksAt w b off ts) := hc
  have HX : Hid (∀ t ∈ ts, t.text.length ≤ maxLen) := htx
  have hpos := ht.lt
  clear ht hc htx
  obtain ⟨i0, hi, hz0, hz1, hz2⟩ := info_parts Tryd.info5
  obtain ⟨x, hx⟩ : ∃ x : Int, x = errOf R := ⟨_, rfl⟩
  rw [← hx]
  have HE : Hid (x = errOf R) := hx
  clear hx
  go_enter Tryd.func22, Tryd.ntmps22
  go_wp2
  go_loopw [4, 11] (fun v i wr => ∃ (k : Nat) (acc : List UInt8), k ≤ len ∧ i = .int .i64 k ∧ wr.ownsRow w.heap.size 5 1 v acc.length (acc.map byteV) ∧ Below w.heap.size w wr ∧ acc.length ≤ 22 * k ∧ Hid (R = Lx.joinGo (ts.drop k) (decide (k = 0)) acc))
    (fun _ i _ => len - (intOf i).toNat)
  case atStart => exact ⟨0, [], Nat.zero_le _, rfl, World.ownsRow_nil _ _ _ _, Below.refl _ _, Nat.le_refl _, HR⟩
  case round =>
    obtain ⟨k, acc, hk, rfl, hown, hbel, hacc, HK⟩ := hrel
    clear HR
    by_cases hlt : k < len
    · obtain ⟨t, ht⟩ : ∃ t, ts[k]? = some t := ⟨ts[k]'(by rw [← HL.out]; exact hlt), List.getElem?_eq_getElem _⟩
      have hdr : ts.drop k = t :: ts.drop (k + 1) := by
        have hlt' : k < ts.length := by rw [← HL.out]; exact hlt
        rw [List.drop_eq_getElem_cons hlt']; congr 1
        rw [List.getElem?_eq_getElem hlt'] at ht; simpa using ht
      obtain ⟨hc0, hc1, hc2, hc3⟩ := HC.out.on hbel hb k t ht
      have htx := HX.out t (List.mem_of_getElem? ht)
      have HTW : Hid (Tab wr) := HT.out.on hbel
      clear ht
      cases hw : Lx.wordA t with
      | none =>
        have HB : Hid (R = none) := by show _ = _; rw [HK.out, hdr, Lx.joinGo, hw]
        have HW : Hid (Lx.wordA t = none) := hw
        clear HK hdr hw
        go_wp2_with fail
        refine (written_none t HW.out htx _).mono ?_
        rintro e w1 ⟨rfl, hb1⟩
        go_wp2_with fail
        go_ret2
        have hs0 := hbel.size
        refine ⟨_, by rw [HE.out, HB.out]; rfl, ?_, (hbel.alloc (by omega) _).trans (hb1.mono (by simp; omega))⟩
        rw [HB.out]
        exact World.ownsRow_nil _ _ _ _
      | some l =>
        have hll := Lx.wordA_len t l hw
        have HW : Hid (Lx.wordA t = some l) := hw
        have HSL : Hid ((⟨l.toArray⟩ : ByteArray).size = l.length) := str_size l
        by_cases hk0 : k = 0
        · have HB : Hid (R = Lx.joinGo (ts.drop (k + 1)) (decide (k + 1 = 0)) (acc ++ l)) := by show _ = _; rw [HK.out, hdr, Lx.joinGo, hw]; simp [hk0]
          have hkp : ¬ (0 : Int) < (k : Int) := by omega
          clear HK hdr hw hk0
          go_wp2_with fail
          refine (written_some t l HW.out htx _ (HTW.out.on ((Below.refl _ _).alloc (Nat.le_refl _) _))).mono ?_
          rintro e w1 ⟨rfl, hb1⟩
          have hown1 := own_below (hown.alloc _) hb1
          have hs0 := hbel.size
          have hs1 := hb1.size
          rw [World.size_alloc] at hs1
          go_wp2_with (at_builtin; refine Lib.wpList_append_own_string _ rfl (.tmp 28) (.tmp 29) 22 9 rfl w.heap.size 5 i0 Tryd.underlying22 Tryd.underlying9 hi hz0 hz1 hz2 _ _ _ rfl hown1 ⟨l.toArray⟩ rfl ?c1 ?c2 ?c3 ?_)
          case c1 => have := HSL.out; unfold maxLen; omega
          case c2 => have := HSL.out; omega
          case c3 => omega
          · intro v' w2 hown2 hgrow2 _
            have hR := join_step1 (Nat.le_refl _) hown hbel hb1 hown2 hgrow2
            clear hown2 hgrow2 hown hown1 hbel hb1
            go_wp2
            go_roundw
            case rel => exact ⟨k + 1, acc ++ l, by omega, by go_num, hR.1, hR.2, by simp; omega, HB⟩
            case measure => simp [intOf]; omega
        · have HB : Hid (R = Lx.joinGo (ts.drop (k + 1)) (decide (k + 1 = 0)) (acc ++ [32] ++ l)) := by show _ = _; rw [HK.out, hdr, Lx.joinGo, hw]; simp [hk0]
          have hkp : (0 : Int) < (k : Int) := by omega
          clear HK hdr hw hk0
          go_wp2_with fail
          refine (written_some t l HW.out htx _ (HTW.out.on ((Below.refl _ _).alloc (Nat.le_refl _) _))).mono ?_
          rintro e w1 ⟨rfl, hb1⟩
          have hown1 := own_below (hown.alloc _) hb1
          have hs0 := hbel.size
          have hs1 := hb1.size
          rw [World.size_alloc] at hs1
          go_wp2_with (at_builtin; refine wpList_append_own _ rfl (.tmp 25) (.tmp 26) 22 rfl w.heap.size 5 i0 (.int .u8 0) 1 1 Tryd.underlying22 hi hz0 hz1 hz2 rfl (by decide) _ _ _ rfl (hown1.alloc _) ⟨w1.heap.size, 0, none⟩ 1 1 [.int .u8 32] rfl rfl ?d1 ?d2 ?d3 ?d4 ?d5 ?_)
          case d1 =>
            intro j u hj
            match j, hj with
            | 0, hj => simp at hj; subst hj; simp [Addr.add]
          case d2 => intro u hu; simp at hu; subst hu; rfl
          case d3 => unfold maxLen; omega
          case d4 => omega
          case d5 => simp; omega
          · intro v' w2 hown2 hgrow2 _
            have hR := join_step2 (Nat.le_refl _) hown hbel hb1 hown2 hgrow2
            clear hown2 hgrow2 hown hown1 hbel hb1
            have hle : (acc ++ [32]).length ≤ 22 * k + 1 := by simp; omega
            generalize acc ++ [32] = acc2 at *
            have hs2 := hR.2.size
            have hownB := hR.1
            go_wp2_with (at_builtin; refine Lib.wpList_append_own_string _ rfl (.tmp 28) (.tmp 29) 22 9 rfl w.heap.size 5 i0 Tryd.underlying22 Tryd.underlying9 hi hz0 hz1 hz2 _ _ _ rfl hownB ⟨l.toArray⟩ rfl ?e1 ?e2 ?e3 ?_)
            case e1 => have := HSL.out; unfold maxLen; omega
            case e2 => have := HSL.out; omega
            case e3 => omega
            · intro v'' w3 hown3 hgrow3 _
              have hR2 := join_step3 (Nat.le_refl _) hR.1 hR.2 hown3 hgrow3
              clear hown3 hgrow3 hR hownB
              go_wp2
              go_roundw
              case rel => exact ⟨k + 1, acc2 ++ l, by omega, by go_num, hR2.1, hR2.2, by simp; omega, HB⟩
              case measure => simp [intOf]; omega
    · have HB : Hid (R = some acc) := by show _ = _; rw [HK.out, List.drop_eq_nil_of_le (by rw [← HL.out]; omega)]; rfl
      clear HK
      go_wp2
      go_ret2
      refine ⟨_, by rw [HE.out, HB.out]; rfl, ?_, hbel⟩
      rw [HB.out]; exact hown

end Go.Proofs.YtpngpkbnhepleaaDoor

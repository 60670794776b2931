/- What Scan answers. -/
import Derived.Test.YtpngpkbnhepleaaDoorWordEnd
import Derived.Test.YtpngpkbnhepleaaDoorMgA
import Derived.Laws.BytesArg
namespace Go.Proofs.YtpngpkbnhepleaaDoor
open Go.RowKit
set_option linter.unusedVariables false
set_option linter.unusedSimpArgs false

theorem Tryd.info77 : (Tryd.prog.info? 77).map (fun i => (i.zero, i.size, i.bytes)) = some (some (.agg #[.int .i64 0, .string ⟨#[]⟩, .int .i64 0, .int .i64 0]), 4, 40) := by kernel_rfl

def tokCells (t : Lx.Tok) : List Value := [.int .i64 t.kind, .string ⟨t.text.toArray⟩, .int .i64 t.num, .int .i64 t.pos]
def toksCells (l : List Lx.Tok) : List Value := l.flatMap tokCells

theorem str_of_bytes (l : List UInt8) : strOfNums (l.map fun u => ((u.toNat : Nat) : Int)) = ⟨l.toArray⟩ := by
  unfold strOfNums
  rw [List.map_map]
  congr 2
  conv => rhs; rw [← List.map_id l]
  apply List.map_congr_left
  intro a _
  simp
theorem conv_bytes (bs : List UInt8) (w : World) (b off cap : Nat) (hc : ∀ k, k < bs.length → w.cell? ⟨b, off + k, none⟩ = some (.int .u8 ((bs.getD k 0).toNat : Int))) (k n cap' : Nat) (h : k + n ≤ bs.length) :
    (convert 22 9 (.slice (some ⟨b, off + k, none⟩) n cap')).run Tryd.prog w = .ok (.string ⟨((bs.drop k).take n).toArray⟩) w := by
  rw [← str_of_bytes]
  refine run_convert_bytes_arg w 22 5 (by kernel_rfl) (by kernel_rfl) b (off + k) n cap' _ (by simp; omega) (fun i hi => ?_) 9 (by kernel_rfl)
  have := hc (k + i) (by omega)
  rw [show off + k + i = off + (k + i) from by omega, this]
  simp [List.getD, hi, List.getElem?_drop, show k + i < bs.length from by omega]

theorem own_below {w w' : World} {base e size : Nat} {v : Value} {n : Nat} {xs : List Value} (h : w.ownsRow base e size v n xs) (hb : Below w.heap.size w w') : w'.ownsRow base e size v n xs :=
  h.kept (row := none) ⟨hb.os, hb.tape, hb.output, hb.size, fun k hk _ => hb.block k hk⟩ (by cases v.ownBlock <;> simp)

theorem scan_step {w wr w1 w2 : World} {B : Nat} {v v' : Value} {acc : List Lx.Tok} {t : Lx.Tok} {o1 o2 : Obj} (hB : B = w.heap.size) (hown : wr.ownsRow B 77 4 v acc.length (toksCells acc)) (hbel : Below B w wr) (hb1 : Below wr.heap.size wr w1)
    (hown2 : w2.ownsRow B 77 4 v' (acc.length + 1) (toksCells acc ++ [.int .i64 t.kind, .string ⟨t.text.toArray⟩, .int .i64 t.num, .int .i64 (t.pos : Int)])) (hg : ((w1.alloc o1).alloc o2).grownBy w2 v.ownBlock) :
    w2.ownsRow B 77 4 v' (acc ++ [t]).length (toksCells (acc ++ [t])) ∧ Below B w w2 := by
  have e : toksCells (acc ++ [t]) = toksCells acc ++ [.int .i64 t.kind, .string ⟨t.text.toArray⟩, .int .i64 t.num, .int .i64 (t.pos : Int)] := by simp [toksCells, tokCells]
  refine ⟨by rw [e, List.length_append]; exact hown2, ?_⟩
  have h0 := hbel.size
  have h1 := hb1.size
  have hl := hown.lt
  exact Below.grown (((hbel.trans (hb1.mono (by omega))).alloc (by omega) _).alloc (by simp; omega) _) hg (by simp; omega) (fun k hk => (hl k hk).1)

set_option maxRecDepth 100000 in
set_option maxHeartbeats 1000000 in
theorem Scan_any (bs : List UInt8) (b off cap : Nat) (w : World) (hn : bs.length ≤ 6000) (hcap : bs.length ≤ cap) (hb : b < w.heap.size)
    (hc : ∀ k, k < bs.length → w.cell? ⟨b, off + k, none⟩ = some (.int .u8 ((bs.getD k 0).toNat : Int))) :
    Calls Tryd.prog 21 #[.slice (some ⟨b, off, none⟩) bs.length cap] w fun e w' => ∃ v, e = .returned (.tuple #[v, .int .i64 ((Lx.scanL bs).2.1 : Int), .int .i64 ((Lx.scanL bs).2.2 : Int)]) ∧
      w'.ownsRow w.heap.size 77 4 v (Lx.scanL bs).1.length (toksCells (Lx.scanL bs).1) ∧ Below w.heap.size w w' := by
  obtain ⟨R, hR⟩ : ∃ R, R = Lx.scanL bs := ⟨_, rfl⟩
  rw [← hR]
  rw [Lx.scanL, if_neg (by omega)] at hR
  have HR : Hid (R = Lx.scanGo bs.length (bs.drop 0) 0 []) := hR
  clear hR
  have HC : Hid (∀ k, k < bs.length → w.cell? ⟨b, off + k, none⟩ = some (.int .u8 ((bs.getD k 0).toNat : Int))) := hc
  clear hc
  obtain ⟨len, hlen⟩ : ∃ len, len = bs.length := ⟨_, rfl⟩
  have HL : Hid (len = bs.length) := hlen
  rw [← hlen] at hn hcap ⊢
  clear hlen
  obtain ⟨i0, hi, hz0, hz1, hz2⟩ := info_parts Tryd.info77
  go_enter Tryd.func21, Tryd.ntmps21
  go_wp2
  go_loopw [2, 5] (fun v i wr => ∃ (k f : Nat) (acc : List Lx.Tok), k ≤ len ∧ i = .int .i64 k ∧ wr.ownsRow w.heap.size 77 4 v acc.length (toksCells acc) ∧ Below w.heap.size w wr ∧ acc.length ≤ k ∧ len - k ≤ f ∧ Hid (R = Lx.scanGo f (bs.drop k) k acc))
    (fun _ i _ => len - (intOf i).toNat)
  case atStart => exact ⟨0, len, [], Nat.zero_le _, rfl, World.ownsRow_nil _ _ _ _, Below.refl _ _, Nat.le_refl _, by omega, by rw [HL.out]; exact HR⟩
  case round =>
    obtain ⟨k, f, acc, hk, rfl, hown, hbel, hacc, hf, HK⟩ := hrel
    clear HR
    by_cases hlt : k < len
    · have hck : wr.cell? ⟨b, off + k, none⟩ = some (.int .u8 ((bs.getD k 0).toNat : Int)) := (hbel.cell (by exact hb)).trans (HC.out k (by rw [← HL.out]; exact hlt))
      have hcw : Hid (∀ k, k < bs.length → wr.cell? ⟨b, off + k, none⟩ = some (.int .u8 ((bs.getD k 0).toNat : Int))) := fun k hk => (hbel.cell (by exact hb)).trans (HC.out k hk)
      obtain ⟨f, rfl⟩ : ∃ f', f = f' + 1 := ⟨f - 1, by omega⟩
      obtain ⟨c, hcc⟩ : ∃ c : Nat, c = (bs.getD k 0).toNat := ⟨_, rfl⟩
      rw [← hcc] at hck
      cases hbk : Lx.blk (bs.getD k 0) with
      | true =>
        have hbk' : Lx.blkI (c : Int) = true := by rw [hcc]; exact hbk
        have HB : Hid (R = Lx.scanGo f (bs.drop (k + 1)) (k + 1) acc) := by show _ = _; rw [HK.out, Lx.scanGo_blk bs k f acc (by rw [← HL.out]; exact hlt) hbk]
        clear hcc hbk HK
        go_wp2_with (go_at_call 37; refine (isBlank_any _ _).mono ?_; rintro e w' ⟨rfl, rfl⟩)
        go_roundw
        case rel => exact ⟨k + 1, f, acc, by omega, by go_num, hown, hbel, by omega, by omega, HB⟩
        case measure => simp [intOf]; omega
      | false =>
        have hbk' : Lx.blkI (c : Int) = false := by rw [hcc]; exact hbk
        have HBK : Hid (Lx.blk (bs.getD k 0) = false) := hbk
        clear hcc hbk
        have hwe := wordEnd_any bs b off cap k wr (by rw [← HL.out]; exact hn) (by rw [← HL.out]; exact hlt) hcw.out
        rw [← HL.out] at hwe
        have hwl : k + Lx.wordLen (bs.drop k) ≤ len := by
          have := Lx.wordLen_le (bs.drop k); rw [List.length_drop, ← HL.out] at this; omega
        have hcv := fun cap' => conv_bytes bs wr b off cap hcw.out k (Lx.wordLen (bs.drop k)) cap' (by rw [← HL.out]; exact hwl)
        obtain ⟨n, hnn⟩ : ∃ n, n = Lx.wordLen (bs.drop k) := ⟨_, rfl⟩
        obtain ⟨word, hword⟩ : ∃ l, l = (bs.drop k).take (Lx.wordLen (bs.drop k)) := ⟨_, rfl⟩
        have HW : Hid (word = Lx.wordOf (bs.drop k)) := hword
        have hwlen : word.length ≤ len := by rw [hword, List.length_take, List.length_drop]; rw [← HL.out]; omega
        rw [← hword] at hcv
        rw [← hnn] at hwl hwe hcv
        have HNN : Hid (n = Lx.wordLen (bs.drop k)) := hnn
        clear hnn hword
        have hsz : (⟨word.toArray⟩ : ByteArray).size ≤ maxLen := by unfold maxLen; simp [ByteArray.size]; omega
        have hdl : (⟨word.toArray⟩ : ByteArray).data.toList = word := rfl
        have htk : (∃ t, Lx.tokOf word k = some t ∧ t.pos = k ∧ Calls Tryd.prog 39 #[.string ⟨word.toArray⟩] wr fun e w' => e = .returned (.tuple #[.agg #[.int .i64 t.kind, .string ⟨t.text.toArray⟩, .int .i64 t.num, .int .i64 0], .bool true]) ∧ Below wr.heap.size wr w') ∨
            (Lx.tokOf word k = none ∧ Calls Tryd.prog 39 #[.string ⟨word.toArray⟩] wr fun e w' => e = .returned (.tuple #[.agg #[.int .i64 0, .string ⟨#[]⟩, .int .i64 0, .int .i64 0], .bool false]) ∧ Below wr.heap.size wr w') := by
          cases h1 : Lx.nameL word with
          | true => exact .inl ⟨⟨1, word, 0, k⟩, by simp [Lx.tokOf, h1], rfl, token_name _ hsz h1 wr⟩
          | false =>
            cases h2 : Lx.numL word with
            | some m => exact .inl ⟨⟨2, [], m, k⟩, by simp [Lx.tokOf, h1, h2], rfl, token_num _ hsz h1 m h2 wr⟩
            | none =>
              cases h3 : Lx.signL word with
              | true => exact .inl ⟨⟨3, word, 0, k⟩, by simp [Lx.tokOf, h1, h2, h3], rfl, token_sign _ hsz h1 h2 h3 wr⟩
              | false => exact .inr ⟨by simp [Lx.tokOf, h1, h2, h3], token_none _ hsz h1 h2 h3 wr⟩
        clear hsz hdl
        rcases htk with ⟨t, ht, hpos, htok⟩ | ⟨ht, htok⟩
        · have HT : Hid (Lx.tokOf word k = some t) := ht
          clear ht
          have HP : Hid (t.pos = k) := hpos
          clear hpos
          have HB : Hid (R = Lx.scanGo f (bs.drop (k + n)) (k + n) (acc ++ [t])) := by
            show _ = _
            rw [HK.out, Lx.scanGo_some bs k f acc t (by rw [← HL.out]; exact hlt) HBK.out (by rw [← HW.out]; exact HT.out), ← HNN.out]
          have hn1 : 0 < n := by rw [HNN.out]; exact Lx.wordLen_pos _ k t (by rw [← HW.out]; exact HT.out)
          clear HK HT HW hwlen
          go_wp2_with (first | (go_at_call 37; refine (isBlank_any _ _).mono ?_; rintro e w' ⟨rfl, rfl⟩) | (go_at_call 38; refine hwe.mono ?_; rintro e w' ⟨rfl, rfl⟩) | (go_at_call 39; refine htok.mono ?_; rintro e w1 ⟨rfl, hb1⟩; have hown1 := own_below hown hb1) | (at_builtin; refine wpList_append_own _ rfl (.tmp 40) (.tmp 42) 41 rfl w.heap.size 77 i0 (.agg #[.int .i64 0, .string ⟨#[]⟩, .int .i64 0, .int .i64 0]) 4 40 Tryd.underlying41 hi hz0 hz1 hz2 rfl (by decide) _ _ _ rfl ((hown1.alloc _).alloc _) ⟨w1.heap.size + 1, 0, none⟩ 1 1 [.int .i64 t.kind, .string ⟨t.text.toArray⟩, .int .i64 t.num, .int .i64 (k : Int)] rfl rfl ?c1 ?c2 ?c3 ?c4 ?c5 ?_))
          case c1 =>
            intro j u hj
            match j, hj with
            | 0, hj => simp at hj; subst hj; simp [Addr.add]
            | 1, hj => simp at hj; subst hj; simp [Addr.add]
            | 2, hj => simp at hj; subst hj; simp [Addr.add]
            | 3, hj => simp at hj; subst hj; simp [Addr.add]
          case c2 => intro u hu; simp at hu; rcases hu with rfl | rfl | rfl | rfl <;> rfl
          case c3 => unfold maxLen; omega
          case c4 => omega
          case c5 => have h1 := hbel.size; have h2 := hb1.size; simp; omega
          · intro v' w2 hown2 hgrow2 _
            rw [← HP.out] at hown2
            have hR := scan_step rfl hown hbel hb1 hown2 hgrow2
            clear hown2 hgrow2 hown hown1 hbel hb1
            go_wp2
            go_roundw
            case rel => exact ⟨k + n, f, acc ++ [t], by omega, by go_num, hR.1, hR.2, by simp; omega, by omega, HB⟩
            case measure => simp [intOf]; omega
        · have HB : Hid (R = ([], k, 3)) := by show _ = _; rw [HK.out, Lx.scanGo_none bs k f acc (by rw [← HL.out]; exact hlt) HBK.out (by rw [← HW.out]; exact ht)]
          clear ht HK
          go_wp2_with (first | (go_at_call 37; refine (isBlank_any _ _).mono ?_; rintro e w' ⟨rfl, rfl⟩) | (go_at_call 38; refine hwe.mono ?_; rintro e w' ⟨rfl, rfl⟩) | (go_at_call 39; refine htok.mono ?_; rintro e w1 ⟨rfl, hb1⟩))
          go_ret3
          rw [HB.out]
          exact ⟨_, rfl, World.ownsRow_nil _ _ _ _, (hbel.trans (hb1.mono hbel.size)).alloc (Nat.le_trans hbel.size hb1.size) _⟩
    · have HB : Hid (R = (acc, 0, 0)) := by show _ = _; rw [HK.out, Lx.scanGo_end bs k f acc (by rw [← HL.out]; exact hlt)]
      clear HK
      go_wp2
      go_ret3
      rw [HB.out]
      exact ⟨_, rfl, hown, hbel⟩

set_option maxRecDepth 100000 in
set_option maxHeartbeats 1000000 in
theorem Scan_empty (a : Option Addr) (cap : Nat) (w : World) :
    Calls Tryd.prog 21 #[.slice a 0 cap] w fun e w' => e = .returned (.tuple #[.slice none 0 0, .int .i64 0, .int .i64 0]) ∧ w' = w := by
  go_enter Tryd.func21, Tryd.ntmps21
  go_wp2
  refine wp_loop_rounds 1 ?_
  rw [rounds_succ]
  go_wp2
  go_ret3
  exact ⟨rfl, rfl⟩

set_option maxRecDepth 100000 in
set_option maxHeartbeats 1000000 in
theorem Scan_long (a : Option Addr) (len cap : Nat) (h : 6000 < len) (hm : len ≤ maxLen) (w : World) :
    Calls Tryd.prog 21 #[.slice a len cap] w fun e w' => e = .returned (.tuple #[.slice none 0 0, .int .i64 0, .int .i64 2]) ∧ w' = w := by
  unfold maxLen at hm
  go_enter Tryd.func21, Tryd.ntmps21
  go_wp2
  go_ret3
  exact ⟨rfl, rfl⟩

end Go.Proofs.YtpngpkbnhepleaaDoor

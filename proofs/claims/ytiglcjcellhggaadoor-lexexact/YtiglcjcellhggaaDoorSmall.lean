/- Small facts that several walks want. -/
import Derived.Test.YtiglcjcellhggaaDoorWakes
import Derived.Test.YtiglcjcellhggaaDoorPlain6
import Derived.Lib.ConvBytes
namespace Go.Proofs.YtiglcjcellhggaaDoor
open Go.RowKit
set_option linter.unusedVariables false
set_option linter.unusedSimpArgs false

theorem app_size (s t : ByteArray) (h : s.size ≤ 100) (ht : t.size ≤ 100) : (s ++ t).size ≤ maxLen := by
  rw [ByteArray.size_append]; unfold maxLen; omega
theorem wrap64_id (n : Int) (h : -9223372036854775808 ≤ n ∧ n ≤ 9223372036854775807) : wrap64 n = n := by unfold wrap64; omega
theorem below_bytes (w : World) (e : TypeId) (s : ByteArray) : Below w.heap.size w (Lib.bytesWorld w e s) :=
  ⟨rfl, rfl, rfl, by rw [Lib.bytesWorld_size]; omega, fun k hk => Lib.bytesWorld_at_old w e s k hk⟩
def byteV (x : UInt8) : Value := .int .u8 (x.toNat : Int)
def lenOf : Value → Nat | .slice _ n _ => n | _ => 0
theorem own_shape {w : World} {base e size : Nat} {v : Value} {n : Nat} {xs : List Value} (h : w.ownsRow base e size v n xs) : ∃ a cap, v = .slice a n cap := by
  rcases h.2 with ⟨rfl, rfl⟩ | ⟨g, cap, cur, rfl, _⟩
  · exact ⟨none, 0, rfl⟩
  · exact ⟨_, cap, rfl⟩
theorem conv_one (u : UInt8) (c : Int) (hu : (u.toNat : Int) = c) (w : World) :
    (convert 22 9 (.slice (some ⟨w.heap.size, 0, none⟩) 1 1)).run Tryd.prog (w.alloc (.cells #[.int .u8 c] 5)) = .ok (.string ⟨#[u]⟩) (w.alloc (.cells #[.int .u8 c] 5)) := by
  subst hu
  have := conv_bytes [u] (w.alloc (.cells #[.int .u8 (u.toNat : Int)] 5)) w.heap.size 0 1 (fun k hk => by
    have : k = 0 := by simp at hk; exact hk
    subst this; rw [cell_marked]; rfl) 0 1 1 (by simp)
  exact this
theorem str_app (a b : List UInt8) : (⟨a.toArray⟩ : ByteArray) ++ ⟨b.toArray⟩ = ⟨(a ++ b).toArray⟩ := by
  apply ByteArray.ext
  rw [ByteArray.data_append]
  show a.toArray ++ b.toArray = (a ++ b).toArray
  apply Array.ext'
  simp
theorem str_size (a : List UInt8) : (⟨a.toArray⟩ : ByteArray).size = a.length := by simp [ByteArray.size]
theorem str_self (s : ByteArray) : (⟨s.data.toList.toArray⟩ : ByteArray) = s := rfl
theorem Num_is (l : List UInt8) (r : Option Int) (h : Lx.numL l = r) (hs : l.length ≤ 1000) (w : World) :
    Calls Tryd.prog 12 #[.string ⟨l.toArray⟩] w fun e w' => e = .returned (.tuple #[.int .i64 (r.getD 0), .bool r.isSome]) ∧ w' = w := by
  have := Num_any ⟨l.toArray⟩ (by rw [str_size]; unfold maxLen; omega) w
  rw [show (⟨l.toArray⟩ : ByteArray).data.toList = l from rfl, h] at this
  exact this

end Go.Proofs.YtiglcjcellhggaaDoor

/-
  Walks: percents as they should be: impl.normalPercents and spec.l1Plain tell the same.
-/
import Derived.Test.YtimfcbjgoilnpaaDoorPeq
namespace Go.Proofs.YtimfcbjgoilnpaaDoor.Pln
open Go.RowKit
open Go.Proofs.YtimfcbjgoilnpaaDoor.Byt
open Go.Proofs.YtimfcbjgoilnpaaDoor.Hex
open Go.Proofs.YtimfcbjgoilnpaaDoor.Enc
open Go.Proofs.YtimfcbjgoilnpaaDoor.Own
open Go.Proofs.YtimfcbjgoilnpaaDoor.Peq (app_list ext_one len_list)

/-- 'string([]byte{x})'. -/
theorem text_at (W : World) (b : Nat) (c : UInt8) (hc : W.cell? ⟨b, 0, none⟩ = some (.int .u8 (c.toNat : Int))) : (convert 48 9 (.slice (some ⟨b, 0, none⟩) 1 1)).run Tryd.prog W = .ok (.string ⟨#[c]⟩) W := by
  refine run_convert_bytes_back _ 48 9 5 ⟨b, 0, none⟩ 1 [c] Tryd.underlying48 Tryd.underlying5 Tryd.underlying9 (fun j hj => ?_)
  have h0 : j = 0 := by simpa using hj
  subst h0
  rw [Addr.add_lit]
  exact hc
theorem text_one (w : World) (c : UInt8) (x : Int) (hx : x = (c.toNat : Int)) : (convert 48 9 (.slice (some ⟨w.heap.size, 0, none⟩) 1 1)).run Tryd.prog (w.alloc (.cells #[.int .u8 x] 5)) = .ok (.string ⟨#[c]⟩) (w.alloc (.cells #[.int .u8 x] 5)) := by
  subst hx
  exact text_at _ _ c (by rw [World.cell?_alloc_mark]; rfl)
theorem text_drew (w : World) (c : UInt8) (x : Int) (hx : x = (c.toNat : Int)) : (convert 48 9 (.slice (some ⟨w.heap.size, 0, none⟩) 1 1)).run Tryd.prog (w.alloc (.cells #[.int .u8 x] 5)).drew = .ok (.string ⟨#[c]⟩) (w.alloc (.cells #[.int .u8 x] 5)).drew := by
  subst hx
  exact text_at _ _ c (by show (w.alloc _).cell? _ = _; rw [World.cell?_alloc_mark]; rfl)

def plnF (l : List UInt8) : Nat → Nat → List UInt8 → List UInt8
  | 0, _, acc => acc
  | f + 1, k, acc => if k < l.length then (if pct l k < 0 then plnF l f (k + 1) (acc ++ [l[k]?.getD 0]) else plnF l f (k + 3) (acc ++ encB (UInt8.ofNat (pct l k).toNat))) else acc

theorem plnF_end {l : List UInt8} {f k : Nat} {acc : List UInt8} (h : l.length ≤ k) : plnF l f k acc = acc := by
  cases f with
  | zero => rfl
  | succ f => simp only [plnF]; rw [if_neg (by omega)]
theorem plnF_one {l : List UInt8} {f k : Nat} {acc : List UInt8} (h : k < l.length) (hp : pct l k < 0) : plnF l (f + 1) k acc = plnF l f (k + 1) (acc ++ [l[k]?.getD 0]) := by
  simp only [plnF]; rw [if_pos h, if_pos hp]
theorem plnF_pct {l : List UInt8} {f k : Nat} {acc : List UInt8} (h : k < l.length) (hp : 0 ≤ pct l k) : plnF l (f + 1) k acc = plnF l f (k + 3) (acc ++ encB (UInt8.ofNat (pct l k).toNat)) := by
  simp only [plnF]; rw [if_pos h, if_neg (by omega)]

/-- A text with its percents as they should be. -/
def pln (l : List UInt8) : List UInt8 := plnF l l.length 0 []
def plnB (s : ByteArray) : ByteArray := ⟨(pln s.data.toList).toArray⟩

theorem plnF_len (l : List UInt8) : ∀ (f k : Nat) (acc : List UInt8), k ≤ l.length → acc.length ≤ k → (plnF l f k acc).length ≤ l.length
  | 0, k, acc, h1, h2 => Nat.le_trans h2 h1
  | f + 1, k, acc, h1, h2 => by
    by_cases h : k < l.length
    · by_cases hp : pct l k < 0
      · rw [plnF_one h hp]; exact plnF_len l f (k + 1) _ h (by simp; omega)
      · have hf := (pct_facts (l := l) (k := k) (by omega)).1
        have := encB_len (UInt8.ofNat (pct l k).toNat)
        rw [plnF_pct h (by omega)]; exact plnF_len l f (k + 3) _ (by omega) (by rw [List.length_append]; omega)
    · rw [plnF_end (by omega)]; omega
theorem plnB_size (s : ByteArray) : (plnB s).size ≤ s.size := by
  have := plnF_len s.data.toList s.data.toList.length 0 [] (Nat.zero_le _) (Nat.le_refl _)
  rw [len_list] at this
  show (pln s.data.toList).toArray.size ≤ s.size
  rw [List.size_toArray]
  exact this

theorem pct_byte (l : List UInt8) (k : Nat) (hp : 0 ≤ pct l k) : pct l k = ((UInt8.ofNat (pct l k).toNat).toNat : Int) := by
  have := pct_hi l k
  rw [UInt8.toNat_ofNat']; omega

end Go.Proofs.YtimfcbjgoilnpaaDoor.Pln

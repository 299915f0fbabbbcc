/-
  Walks: impl.readWeight: a weight that is read.
-/
import Derived.Test.YtelpmkbjegimpaaDoorWgt
import Derived.Test.YtelpmkbjegimpaaDoorShelf
namespace Go.Proofs.YtelpmkbjegimpaaDoor.Wgt
open Go.RowKit
open Go.Proofs.YtelpmkbjegimpaaDoor.Byt
open Go.Proofs.YtelpmkbjegimpaaDoor.Fbs
open Go.Proofs.YtelpmkbjegimpaaDoor.Fch
open Go.Proofs.YtelpmkbjegimpaaDoor.Ctf

theorem wS_nodot (a d : UInt8) (r : List UInt8) (h : d ≠ 46) : wS (a :: d :: r) = -1 := by
  rw [wS_cons]
  have hd : d.toNat ≠ 46 := fun e => h (UInt8.toNat_inj.1 (by rw [e]; rfl))
  have e : wG (d :: r) (1000 * ((a.toNat : Int) - 48)) = -1 := by
    show (if d.toNat = 46 then wF r (1000 * ((a.toNat : Int) - 48)) 100 else -1) = _
    rw [if_neg hd]
  rw [e]
  split
  · split <;> rfl
  · rfl

theorem cut_weight (s : ByteArray) : ((cutA s 46).size ≠ 1 → wS s.data.toList = -1) ∧ ((cutA s 46).size = 1 → cutB s 46 = true → ¬ (1 ≤ (cutZ s 46).size ∧ (cutZ s 46).size ≤ 3) → wS s.data.toList = -1) ∧
    ((cutA s 46).size = 1 → (cutB s 46 = true → 1 ≤ (cutZ s 46).size ∧ (cutZ s 46).size ≤ 3) → Fits (rdL (dgs (cutA s 46) (cutZ s 46)).data.toList 0) (wS s.data.toList)) := by
  have hlen := len_list s
  cases hc : cutI s 46 with
  | some k =>
    obtain ⟨e1, e2, e3⟩ := cut_some hc
    obtain ⟨_, hk, h46, hno⟩ := first_spec _ _ _ hc
    rw [e1, e2, e3]
    have hA : (s.extract 0 k).size = k := by rw [ByteArray.size_extract]; omega
    have hZ : (s.extract (k + 1) s.size).size = s.size - (k + 1) := by rw [ByteArray.size_extract]; omega
    have hAl : (s.extract 0 k).data.toList = s.data.toList.take k := Lib.extract_from_zero s k
    have hZl : (s.extract (k + 1) s.size).data.toList = s.data.toList.drop (k + 1) := Lib.extract_to_end s (k + 1)
    rw [hA, hZ]
    generalize s.data.toList = l at *
    refine ⟨fun hne => ?_, fun h1 _ hz => ?_, fun h1 hz => ?_⟩
    · rcases l with _ | ⟨a, _ | ⟨d, r⟩⟩
      · rfl
      · have : k = 0 := by simp at hk; omega
        subst this
        have ha : a = 46 := by simpa using h46
        subst ha
        rw [wS_cons]; rfl
      · rcases Nat.eq_zero_or_pos k with h0 | h0
        · subst h0
          have ha : a = 46 := by simpa using h46
          subst ha
          rw [wS_cons]; rfl
        · have := hno 1 (by omega) (by omega)
          exact wS_nodot a d r (by simpa using this)
    · subst h1
      rcases l with _ | ⟨a, _ | ⟨d, r⟩⟩
      · rfl
      · simp at hk
      · rw [wS_cons, if_neg (show ¬ ((d :: r).length ≠ 1 ∧ (d :: r).length ≤ 4) from by simp only [List.length_cons] at hlen ⊢; omega)]
        split <;> rfl
    · subst h1
      have hz := hz rfl
      rcases l with _ | ⟨a, _ | ⟨d, r⟩⟩
      · simp at hk
      · simp at hk
      · have hd : d = 46 := by simpa using h46
        subst hd
        exact fits_all a (46 :: r) (.inr ⟨r, rfl, by simp only [List.length_cons] at hlen; omega, by simp only [List.length_cons] at hlen; omega⟩) _ _ (by rw [hAl]; rfl) (by rw [hZl]; rfl)
  | none =>
    obtain ⟨e1, e2, e3⟩ := cut_none hc
    have hno := first_no _ _ (by omega) hc
    rw [e1, e2, e3]
    refine ⟨fun hne => ?_, fun _ h => (by cases h), fun h1 _ => ?_⟩
    · rw [← hlen] at hne
      generalize s.data.toList = l at *
      rcases l with _ | ⟨a, _ | ⟨d, r⟩⟩
      · rfl
      · simp at hne
      · have := hno 1 (by omega) (by simp)
        exact wS_nodot a d r (by simpa using this)
    · rcases hl : s.data.toList with _ | ⟨a, _ | ⟨d, r⟩⟩
      · rw [hl] at hlen; simp at hlen; omega
      · exact fits_all a [] (.inl rfl) _ _ hl rfl
      · rw [hl] at hlen; simp at hlen; omega

theorem cut_call (s : ByteArray) (c : UInt8) (m : Int) (w : World) (hs : s.size ≤ 2000000) (hm : w.cell? ⟨0, 0, none⟩ = some (.int .i64 m)) :
    Calls Tryd.prog 49 #[.string s, .string ⟨#[c]⟩] w fun e w' => e = .returned (.tuple #[.string (cutA s c), .string (cutZ s c), .bool (cutB s c)]) ∧ Below w.heap.size w w' := by
  have := Tryd.strings_Cut s ⟨#[c]⟩ m w (by omega) hm
  refine this.mono ?_
  rintro e w' ⟨rfl, n, rfl⟩
  obtain ⟨c1, c2, c3⟩ := cut_is s c
  refine ⟨?_, Ctf.below_drewN w n⟩
  rw [← c1, ← c2, ← c3]

def wV (W : Int) : Int := if 0 ≤ W then W else 0
theorem ret_w {a b : Int} {x y : Bool} (h : a = b) (k : x = y) : Ending.returned (.tuple #[.int .i64 a, .bool x]) = .returned (.tuple #[.int .i64 b, .bool y]) := by rw [h, k]

end Go.Proofs.YtelpmkbjegimpaaDoor.Wgt

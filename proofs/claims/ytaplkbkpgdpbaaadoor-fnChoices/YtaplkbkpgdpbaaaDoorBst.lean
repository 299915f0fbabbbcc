/-
  Walks: the best choice of some that are offered: what both tell of it; spec.BestChoice.
-/
import Derived.Test.YtaplkbkpgdpbaaaDoorMkc
namespace Go.Proofs.YtaplkbkpgdpbaaaDoor.Bst
open Go.RowKit
open Go.Proofs.YtaplkbkpgdpbaaaDoor.Fbs
open Go.Proofs.YtaplkbkpgdpbaaaDoor.Fch
open Go.Proofs.YtaplkbkpgdpbaaaDoor.Och
open Go.Proofs.YtaplkbkpgdpbaaaDoor.Mrc
open Go.Proofs.YtaplkbkpgdpbaaaDoor.Mrk (TV RowT)
open Go.Proofs.YtaplkbkpgdpbaaaDoor.Lof (lowB lowS specLow_any lowS_size)

/-- The weight of the first choice of a name, and where none has it, d. -/
def wAt (n : ByteArray) (d : Int) : List (ByteArray × Int) → Int
  | [] => d
  | c :: r => if c.1 = n then c.2 else wAt n d r
def star : ByteArray := ⟨#[42]⟩
/-- The weight of what is offered. -/
def wOf (l : List (ByteArray × Int)) (o : ByteArray) : Int :=
  if wAt (lowS o) (-1) l < 0 then wAt star 0 l else wAt (lowS o) (-1) l
def bestF (l : List (ByteArray × Int)) : List ByteArray → ByteArray → Int → ByteArray × Int
  | [], b, m => (b, m)
  | o :: r, b, m => if m < wOf l o then bestF l r o (wOf l o) else bestF l r b m

theorem wAt_snoc (n : ByteArray) (d : Int) (c : ByteArray × Int) : ∀ l, wAt n d (l ++ [c]) = wAt n (if c.1 = n then c.2 else d) l
  | [] => by simp only [List.nil_append, wAt]
  | x :: r => by
    have ih := wAt_snoc n d c r
    simp only [List.cons_append, wAt, ih]
theorem text_cmp (a b : ByteArray) : (a.toList == b.toList) = decide (a = b) := by
  by_cases h : a = b
  · subst h; simp
  · rw [decide_eq_false h, beq_eq_false_iff_ne]
    intro e
    apply h
    rw [ByteArray.toList_eq, ByteArray.toList_eq] at e
    exact ByteArray.ext (Array.toList_inj.1 e)

/-- Whether some may be offered. -/
def areB (l : List ByteArray) : Bool := decide (l.length ≤ 20) && l.all fun o => tokenB o.data.toList
theorem areB_no {l : List ByteArray} {k : Nat} (h : k < l.length) (ht : tokenB l[k].data.toList = false) : areB l = false := by
  unfold areB
  rw [Bool.and_eq_false_iff]
  right
  rw [List.all_eq_false]
  exact ⟨l[k], List.getElem_mem h, by rw [ht]; exact Bool.false_ne_true⟩
theorem areB_yes {l : List ByteArray} (h : l.length ≤ 20) (ht : ∀ k, (hk : k < l.length) → tokenB l[k].data.toList = true) : areB l = true := by
  unfold areB
  rw [decide_eq_true h, Bool.true_and, List.all_eq_true]
  intro o ho
  obtain ⟨k, hk, rfl⟩ := List.getElem_of_mem ho
  exact ht k hk
theorem ret_bool {a b : Bool} (h : a = b) : Ending.returned (.bool a) = .returned (.bool b) := by rw [h]

set_option maxHeartbeats 800000 in
theorem areOffered_any (a : Option Addr) (ca : Nat) (l : List ByteArray) (w : World) (lo hi : Nat) (hT : Tab w) (ha : TV w a l lo hi) :
    Calls Tryd.prog 64 #[.slice a l.length ca] w fun e w' => e = .returned (.bool (areB l)) ∧ Below w.heap.size w w' := by
  have hgt := hT.lt
  by_cases h20 : 20 < l.length
  · have HR : Hid (areB l = false) := by show _ = _; unfold areB; rw [decide_eq_false (by omega)]; rfl
    have hd : decide (20 < (l.length : Int)) = true := decide_eq_true (by omega)
    go_enter Tryd.func64, Tryd.ntmps64
    go_wp2
    go_ret
    exact ⟨ret_bool HR.out.symm, Below.refl _ _⟩
  have hd : decide (20 < (l.length : Int)) = false := decide_eq_false (by omega)
  by_cases h0 : l = []
  · subst h0
    go_enter Tryd.func64, Tryd.ntmps64
    go_wp2_with fail
    go_loop [10] (fun i => i = .int .i64 0) (fun _ => 0)
    case atStart => rfl
    case round =>
      obtain rfl := hrel
      go_wp2_with fail
      go_ret
      exact ⟨rfl, Below.refl _ _⟩
  rcases ha with ha | ⟨g, rfl, _, _, ga⟩
  · exact absurd ha h0
  have GA : Hid (RowT w g l) := ga
  clear ga
  go_enter Tryd.func64, Tryd.ntmps64
  go_wp2_with fail
  go_loopw [10] (fun i wr => ∃ k : Nat, k ≤ l.length ∧ i = .int .i64 k ∧ Below w.heap.size w wr ∧ Hid (∀ j, (hj : j < l.length) → j < k → tokenB l[j].data.toList = true)) (fun i _ => l.length - (intOf i).toNat)
  case atStart => exact ⟨0, by omega, rfl, Below.refl _ _, fun j _ h => absurd h (by omega)⟩
  case round =>
    obtain ⟨k, hk, rfl, hbel, HT⟩ := hrel
    by_cases hlt : k < l.length
    · have hc := (GA.out.below hbel).2.2 k l[k] (List.getElem?_eq_getElem hlt)
      have T1 := fun w h => isToken_any l[k] w h
      cases ht : tokenB l[k].data.toList
      · rw [ht] at T1
        have HT1 : Hid _ := T1
        have HR : Hid (areB l = false) := areB_no hlt ht
        clear T1 ht
        go_wp2_with fail
        refine (HT1.out _ (hT.below hbel hgt)).mono ?_
        rintro e w2 ⟨rfl, hw⟩
        obtain rfl := hw.symm
        go_wp2_with fail
        go_ret
        exact ⟨ret_bool HR.out.symm, hbel⟩
      · rw [ht] at T1
        have HT1 : Hid _ := T1
        have HT' : Hid (∀ j, (hj : j < l.length) → j < k + 1 → tokenB l[j].data.toList = true) := by
          intro j hj h
          by_cases e : j = k
          · subst e; exact ht
          · exact HT.out j hj (by omega)
        clear T1 ht HT
        go_wp2_with fail
        refine (HT1.out _ (hT.below hbel hgt)).mono ?_
        rintro e w2 ⟨rfl, hw⟩
        obtain rfl := hw.symm
        go_wp2_with fail
        go_roundw
        case rel => exact ⟨k + 1, by omega, by go_num, hbel, HT'⟩
        case measure => simp [intOf]; omega
    · have HR : Hid (areB l = true) := areB_yes (by omega) (fun j hj => HT.out j hj (by omega))
      go_wp2_with fail
      go_ret
      exact ⟨ret_bool HR.out.symm, hbel⟩

end Go.Proofs.YtaplkbkpgdpbaaaDoor.Bst

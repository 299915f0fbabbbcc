/-
  Walks: a number told in digits: spec.l1Num; strconv.Itoa by its contract.
-/
import Derived.Test.YtfgcgnhffljiaaaGreatDoorProg
import Derived.Test.YtfgcgnhffljiaaaGreatDoorShelf
import Derived.WalkKit
import Derived.WalkLawsBesides
import Derived.Below
import Derived.Lib.ItoaNum
import Derived.Lib.LaidTab
import Derived.Deep.DeepMust
import Derived.Deep.QuietTactic
import Derived.BigQuiet
namespace Go.Proofs.YtfgcgnhffljiaaaGreatDoor.Num
open Go.RowKit

theorem ret_str {a b : ByteArray} (h : a = b) : Ending.returned (.string a) = .returned (.string b) := by rw [h]

theorem app_list (a b : List UInt8) : (⟨a.toArray⟩ : ByteArray) ++ ⟨b.toArray⟩ = ⟨(a ++ b).toArray⟩ := by
  apply ByteArray.ext; simp

/-- A number's decimal digits as a text. -/
def num (n : Nat) : ByteArray := ⟨(Lib.decDigits n).toArray⟩

theorem num_one {n : Nat} (h : n < 10) : num n = ⟨#[UInt8.ofNat (48 + n)]⟩ := by unfold num; rw [Lib.decDigits_one h]
theorem num_more {n : Nat} (h : ¬ n < 10) : num n = num (n / 10) ++ ⟨#[UInt8.ofNat (48 + n % 10)]⟩ := by
  unfold num; rw [Lib.decDigits, dif_neg h]
  exact (app_list _ _).symm

theorem num_size_le (f : Nat) : ∀ n : Nat, n < 10 ^ (f + 1) → (num n).size ≤ f + 1 := by
  induction f with
  | zero => intro n h; rw [num_one (by simpa using h)]; exact Nat.le_refl 1
  | succ f ih =>
    intro n h
    by_cases h1 : n < 10
    · rw [num_one h1]; show 1 ≤ _; omega
    · rw [num_more h1, ByteArray.size_append]
      have := ih (n / 10) (by rw [Nat.pow_succ] at h; omega)
      show _ + 1 ≤ _
      omega

theorem byte_of (n : Nat) (h : n < 208) : ((UInt8.ofNat (48 + n)).toNat : Int) = 48 + (n : Int) := by
  rw [UInt8.toNat_ofNat']; omega

/-- 'string([]byte{x})'. -/
theorem text_at (W : World) (b : Nat) (c : UInt8) (hc : W.cell? ⟨b, 0, none⟩ = some (.int .u8 (c.toNat : Int))) : (convert 120 9 (.slice (some ⟨b, 0, none⟩) 1 1)).run Tryz.prog W = .ok (.string ⟨#[c]⟩) W := by
  refine run_convert_bytes_back _ 120 9 5 ⟨b, 0, none⟩ 1 [c] Tryz.underlying120 Tryz.underlying5 Tryz.underlying9 (fun j hj => ?_)
  have h0 : j = 0 := by simpa using hj
  subst h0
  rw [Addr.add_lit]
  exact hc
theorem text_one (w : World) (c : UInt8) (x : Int) (hx : x = (c.toNat : Int)) : (convert 120 9 (.slice (some ⟨w.heap.size, 0, none⟩) 1 1)).run Tryz.prog (w.alloc (.cells #[.int .u8 x] 5)) = .ok (.string ⟨#[c]⟩) (w.alloc (.cells #[.int .u8 x] 5)) := by
  subst hx
  exact text_at _ _ c (by rw [World.cell?_alloc_mark]; rfl)
theorem text_drew (w : World) (c : UInt8) (x : Int) (hx : x = (c.toNat : Int)) : (convert 120 9 (.slice (some ⟨w.heap.size, 0, none⟩) 1 1)).run Tryz.prog (w.alloc (.cells #[.int .u8 x] 5)).drew = .ok (.string ⟨#[c]⟩) (w.alloc (.cells #[.int .u8 x] 5)).drew := by
  subst hx
  exact text_at _ _ c (by show (w.alloc _).cell? _ = _; rw [World.cell?_alloc_mark]; rfl)

theorem text_later (w w1 : World) (c : UInt8) (x : Int) (hx : x = (c.toNat : Int)) (hb : Below (w.alloc (.cells #[.int .u8 x] 5)).drew.heap.size (w.alloc (.cells #[.int .u8 x] 5)).drew w1) :
    (convert 120 9 (.slice (some ⟨w.heap.size, 0, none⟩) 1 1)).run Tryz.prog w1 = .ok (.string ⟨#[c]⟩) w1 := by
  subst hx
  refine text_at _ _ c ((hb.cell (p := ⟨w.heap.size, 0, none⟩) (by simp)).trans ?_)
  show (w.alloc _).cell? _ = _
  rw [World.cell?_alloc_mark]; rfl

theorem num_small (n : Nat) (w : World) (h : n < 10) :
    Calls Tryz.prog 106 #[.int .i64 n] w fun e w' => e = .returned (.string (num n)) ∧ Below w.heap.size w w' := by
  obtain ⟨c, hc⟩ : ∃ c, c = UInt8.ofNat (48 + n) := ⟨_, rfl⟩
  have hx := fun wx => text_one wx c (48 + (n : Int)) (by rw [hc, byte_of n (by omega)])
  have HR : Hid (num n = ⟨#[c]⟩) := by show _ = _; rw [hc]; exact num_one h
  clear hc
  go_enter Tryz.func106, Tryz.ntmps106
  go_wp2
  go_ret
  exact ⟨ret_str HR.out.symm, (Below.refl _ _).alloc (Nat.le_refl _) _⟩

set_option maxRecDepth 20000 in
theorem num_great (n : Nat) (w : World) (h : ¬ n < 10) (hb : n ≤ 1000000)
    (ih : ∀ w : World, Calls Tryz.prog 106 #[.int .i64 ((n : Int) / 10)] w fun e w' => e = .returned (.string (num (n / 10))) ∧ Below w.heap.size w w') :
    Calls Tryz.prog 106 #[.int .i64 n] w fun e w' => e = .returned (.string (num n)) ∧ Below w.heap.size w w' := by
  obtain ⟨c, hc⟩ : ∃ c, c = UInt8.ofNat (48 + n % 10) := ⟨_, rfl⟩
  have hx := fun wx => text_one wx c (48 + (n : Int) % 10) (by rw [hc, byte_of _ (by omega)]; omega)
  have hy := fun wx => text_drew wx c (48 + (n : Int) % 10) (by rw [hc, byte_of _ (by omega)]; omega)
  obtain ⟨T, hT⟩ : ∃ T, T = num (n / 10) := ⟨_, rfl⟩
  have HR : Hid (num n = T ++ ⟨#[c]⟩) := by show _ = _; rw [hc, hT]; exact num_more h
  have hsz : T.size ≤ 7 := by rw [hT]; exact num_size_le 6 (n / 10) (by omega)
  rw [← hT] at ih
  have a1 : IntKind.i64.wrap ((n : Int) / 10) = (n : Int) / 10 := by rw [IntKind.wrap_i64]; omega
  have a2 : (n : Int).tmod 10 = (n : Int) % 10 := Int.tmod_eq_emod_of_nonneg (by omega)
  have a3 : IntKind.i64.wrap (48 + (n : Int) % 10) = 48 + (n : Int) % 10 := by rw [IntKind.wrap_i64]; omega
  have a4 : IntKind.u8.wrap (48 + (n : Int) % 10) = 48 + (n : Int) % 10 := by
    have hd : (n : Int) % 10 = ((n % 10 : Nat) : Int) := by omega
    have all : ∀ m : Nat, m < 10 → IntKind.u8.wrap (48 + (m : Int)) = 48 + (m : Int) := by decide
    rw [hd]; exact all _ (by omega)
  have hC : Hid (48 + (n : Int) % 10 = (c.toNat : Int)) := by show _ = _; rw [hc, byte_of _ (by omega)]; omega
  clear hc hT
  have IH := ih
  clear ih
  go_enter Tryz.func106, Tryz.ntmps106
  go_wp2_with fail
  go_region_with (go_at_call 106; refine (IH _).mono ?_; rintro e w1 ⟨rfl, hb1⟩; try (have hcv := text_later w w1 c _ hC.out hb1))
  all_goals
    go_wp2
    go_ret
    refine ⟨ret_str HR.out.symm, ?_⟩
    first
      | exact ((Below.refl _ _).alloc (Nat.le_refl _) _).drew.trans (hb1.mono (by simp))
      | exact ((Below.refl _ _).drew.trans (hb1.mono (Nat.le_refl _))).alloc hb1.size _

theorem num_any : ∀ (f n : Nat) (w : World), n < 10 ^ (f + 1) → n ≤ 1000000 →
    Calls Tryz.prog 106 #[.int .i64 n] w fun e w' => e = .returned (.string (num n)) ∧ Below w.heap.size w w'
  | 0, n, w, h, _ => num_small n w (by simpa using h)
  | f + 1, n, w, h, hb => by
    by_cases h1 : n < 10
    · exact num_small n w h1
    · refine num_great n w h1 hb (fun w2 => ?_)
      have := num_any f (n / 10) w2 (by rw [Nat.pow_succ] at h; omega) (by omega)
      rwa [show ((n / 10 : Nat) : Int) = (n : Int) / 10 from by omega] at this

theorem below_grow (w : World) (n : Nat) (os : Array Obj) : Below w.heap.size w (Go.Sort.grow (w.drewN n) os) := by
  refine ⟨rfl, rfl, rfl, ?_, fun k hk => ?_⟩
  · show w.heap.size ≤ (w.heap ++ os).size
    rw [Array.size_append]; omega
  · show (w.heap ++ os)[k]? = _
    rw [Array.getElem?_append, if_pos hk]

/-- strconv.Itoa of a port. -/
theorem itoa_any (n : Nat) (w : World) (h1 : n ≤ 1000000) (htab : Lib.TabIs Tryz.prog w "internal/strconv.uint64pow10" .u64 Lib.pow10Tab) :
    Calls Tryz.prog 143 #[.int .i64 n] w fun e w' => e = .returned (.string (num n)) ∧ Below w.heap.size w w' := by
  refine (Tryz.strconv_Itoa (n : Int) (by omega) (by omega) w htab).mono ?_
  rintro e w' ⟨rfl, k, os, rfl⟩
  exact ⟨ret_str (by rw [Lib.itoa_nonneg]; rfl), below_grow w k os⟩

theorem gPow : Tryz.prog.globalNamed "internal/strconv.uint64pow10" = some 5 := by kernel_rfl
theorem tab_below {B : Nat} {w w' : World} (h : Lib.TabIs Tryz.prog w "internal/strconv.uint64pow10" .u64 Lib.pow10Tab) (hb : Below B w w') (hB : 5 < B) : Lib.TabIs Tryz.prog w' "internal/strconv.uint64pow10" .u64 Lib.pow10Tab :=
  var?_below hb gPow hB h
theorem tab_lt {w : World} (h : Lib.TabIs Tryz.prog w "internal/strconv.uint64pow10" .u64 Lib.pow10Tab) : 5 < w.heap.size := by
  unfold Lib.TabIs World.var? at h
  rw [gPow] at h
  simp only [Option.bind_some] at h
  cases hh : w.heap[5]? with
  | none => rw [hh] at h; cases h
  | some o => exact (Array.getElem?_eq_some_iff.1 hh).1
theorem tab_alloc {w : World} (h : Lib.TabIs Tryz.prog w "internal/strconv.uint64pow10" .u64 Lib.pow10Tab) (o : Obj) : Lib.TabIs Tryz.prog (w.alloc o) "internal/strconv.uint64pow10" .u64 Lib.pow10Tab :=
  tab_below h ((Below.refl w.heap.size w).alloc (Nat.le_refl _) o) (tab_lt h)

end Go.Proofs.YtfgcgnhffljiaaaGreatDoor.Num

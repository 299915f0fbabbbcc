/-
  Walks: names of days and months: impl.dayNameOf, impl.monthNameOf, impl.WeekdayOf, spec.l2Weekday.
-/
import Derived.Test.YtgidmoncocbfiaaGreatDoorMg5
import Derived.Test.YtgidmoncocbfiaaGreatDoorMg6
namespace Go.Proofs.YtgidmoncocbfiaaGreatDoor.Nam
open Go.RowKit
open Go.Proofs.YtgidmoncocbfiaaGreatDoor.Dmt
open Go.Proofs.YtgidmoncocbfiaaGreatDoor.Dwa
open Go.Proofs.YtgidmoncocbfiaaGreatDoor.Num (ret_str)

def dnames : List ByteArray := [⟨#[83, 117, 110, 100, 97, 121]⟩, ⟨#[77, 111, 110, 100, 97, 121]⟩, ⟨#[84, 117, 101, 115, 100, 97, 121]⟩, ⟨#[87, 101, 100, 110, 101, 115, 100, 97, 121]⟩, ⟨#[84, 104, 117, 114, 115, 100, 97, 121]⟩, ⟨#[70, 114, 105, 100, 97, 121]⟩, ⟨#[83, 97, 116, 117, 114, 100, 97, 121]⟩]
def dn (k : Nat) : ByteArray := dnames.getD k ⟨#[]⟩
def mbytes : List Int := [74, 97, 110, 70, 101, 98, 77, 97, 114, 65, 112, 114, 77, 97, 121, 74, 117, 110, 74, 117, 108, 65, 117, 103, 83, 101, 112, 79, 99, 116, 78, 111, 118, 68, 101, 99]
def mnames : List ByteArray := [⟨#[74, 97, 110]⟩, ⟨#[70, 101, 98]⟩, ⟨#[77, 97, 114]⟩, ⟨#[65, 112, 114]⟩, ⟨#[77, 97, 121]⟩, ⟨#[74, 117, 110]⟩, ⟨#[74, 117, 108]⟩, ⟨#[65, 117, 103]⟩, ⟨#[83, 101, 112]⟩, ⟨#[79, 99, 116]⟩, ⟨#[78, 111, 118]⟩, ⟨#[68, 101, 99]⟩]
/-- A month's name. -/
def mname (m : Int) : ByteArray := mnames.getD (m.toNat - 1) ⟨#[]⟩
/-- A day's short name. -/
def sname (k : Nat) : ByteArray := (dn k).extract 0 3

def TabD (w : World) : Prop := ∀ i, i < 7 → w.cell? ⟨3, i, none⟩ = some (.string (dn i))
def TabN (w : World) : Prop := ∀ i, i < 36 → w.cell? ⟨2, i, none⟩ = some (.int .u8 (mbytes.getD i 0))
theorem TabD.below {B : Nat} {w w' : World} (h : TabD w) (hb : Below B w w') (hB : 3 < B) : TabD w' := fun i hi => (hb.cell (p := ⟨3, i, none⟩) hB).trans (h i hi)
theorem TabD.lt {w : World} (h : TabD w) : 3 < w.heap.size := World.block_lt_of_cell? w _ (h 0 (by omega))
theorem TabD.alloc {w : World} (h : TabD w) (o : Obj) : TabD (w.alloc o) := h.below ((Below.refl w.heap.size w).alloc (Nat.le_refl _) o) h.lt
theorem TabN.below {B : Nat} {w w' : World} (h : TabN w) (hb : Below B w w') (hB : 2 < B) : TabN w' := fun i hi => (hb.cell (p := ⟨2, i, none⟩) hB).trans (h i hi)
theorem TabN.lt {w : World} (h : TabN w) : 2 < w.heap.size := World.block_lt_of_cell? w _ (h 0 (by omega))
theorem TabN.alloc {w : World} (h : TabN w) (o : Obj) : TabN (w.alloc o) := h.below ((Below.refl w.heap.size w).alloc (Nat.le_refl _) o) h.lt

theorem dn_size : ∀ k, k < 7 → 3 ≤ (dn k).size ∧ (dn k).size ≤ 9 := by decide
theorem sname_size : ∀ k, k < 7 → (sname k).size = 3 := by decide
theorem mname_size (m : Int) (h1 : 1 ≤ m) (h2 : m ≤ 12) : (mname m).size = 3 := by
  have : m = 1 ∨ m = 2 ∨ m = 3 ∨ m = 4 ∨ m = 5 ∨ m = 6 ∨ m = 7 ∨ m = 8 ∨ m = 9 ∨ m = 10 ∨ m = 11 ∨ m = 12 := by omega
  rcases this with rfl | rfl | rfl | rfl | rfl | rfl | rfl | rfl | rfl | rfl | rfl | rfl <;> rfl

theorem implWk_yes (days : Int) (w : World) (h1 : 0 ≤ days) (h2 : days ≤ 2932896) :
    Calls Tryz.prog 166 #[.int .i64 days] w fun e w' => e = .returned (.tuple #[.int .i64 ((days + 4) % 7), .bool true]) ∧ w' = w := by
  go_enter Tryz.func166, Tryz.ntmps166
  go_wp2
  go_ret2
  exact ⟨rfl, rfl⟩

theorem implDayName_any (y m d h i s : Int) (k : Nat) (w : World) (hT : Tab w) (hD : TabD w) (hd : dayB y m d = true) (hk : wdI y m d = k) :
    Calls Tryz.prog 150 #[.agg #[.int .i64 y, .int .i64 m, .int .i64 d, .int .i64 h, .int .i64 i, .int .i64 s]] w fun e w' => e = .returned (.string (dn k)) ∧ Below w.heap.size w w' := by
  have ht := days_top hd
  have hk7 : k < 7 := by unfold wdI at hk; omega
  have hk' : (daysI y m d + 4) % 7 = (k : Int) := hk
  have hT0 := hT.alloc (.cells #[.int .i64 y, .int .i64 m, .int .i64 d, .int .i64 h, .int .i64 i, .int .i64 s] 93)
  have hD0 := (hD.alloc (.cells #[.int .i64 y, .int .i64 m, .int .i64 d, .int .i64 h, .int .i64 i, .int .i64 s] 93)) k hk7
  have W1 := fun w => implWk_yes (daysI y m d) w ht.1 ht.2
  rw [hk'] at W1
  go_enter Tryz.func150, Tryz.ntmps150
  go_wp2_with (first
    | (go_at_call 124; refine (implDays_yes y m d _ hT0 hd).mono ?_; rintro e w' ⟨rfl, hw⟩; obtain rfl := hw.symm)
    | (go_at_call 166; refine (W1 _).mono ?_; rintro e w' ⟨rfl, hw⟩; obtain rfl := hw.symm))
  go_ret
  exact ⟨rfl, (Below.refl _ _).alloc (Nat.le_refl _) _⟩

theorem specWeekday_any (y m d h i s : Int) (w : World) (hd : dayB y m d = true) :
    Calls Tryz.prog 72 #[.agg #[.int .i64 y, .int .i64 m, .int .i64 d, .int .i64 h, .int .i64 i, .int .i64 s]] w fun e w' => e = .returned (.int .i64 (wdI y m d)) ∧ Below w.heap.size w w' := by
  have ht := days_top hd
  obtain ⟨⟨h1, h2⟩, ⟨h3, h4⟩, h5, h6⟩ := day_parts hd
  have g3 := long_hi y m
  have HR : Hid ((daysI y m d + 4) % 7 = wdI y m d) := rfl
  clear hd
  go_enter Tryz.func72, Tryz.ntmps72
  go_wp2_with (go_at_call 102; refine (specDays_any y m d _ h1 h2 h3 h4 h5 (by omega)).mono ?_; rintro e w' ⟨rfl, hw⟩; obtain rfl := hw.symm)
  go_ret
  exact ⟨ret_int HR.out, (Below.refl _ _).alloc (Nat.le_refl _) _⟩

theorem text3 (wx : World) (b : Nat) (c0 c1 c2 : UInt8) (h0 : wx.cell? ⟨b, 0, none⟩ = some (.int .u8 (c0.toNat : Int))) (h1 : wx.cell? ⟨b, 1, none⟩ = some (.int .u8 (c1.toNat : Int))) (h2 : wx.cell? ⟨b, 2, none⟩ = some (.int .u8 (c2.toNat : Int))) :
    (convert 22 9 (.slice (some ⟨b, 0, none⟩) 3 3)).run Tryz.prog wx = .ok (.string ⟨#[c0, c1, c2]⟩) wx := by
  refine run_convert_bytes_back _ 22 9 5 ⟨b, 0, none⟩ 3 [c0, c1, c2] Tryz.underlying22 Tryz.underlying5 Tryz.underlying9 (fun j hj => ?_)
  match j, hj with
  | 0, _ => simpa [Addr.add] using h0
  | 1, _ => simpa [Addr.add] using h1
  | 2, _ => simpa [Addr.add] using h2
theorem month_conv (wx : World) (c0 c1 c2 : UInt8) (n0 n1 n2 : Int) (t : TypeId) (h0 : n0 = (c0.toNat : Int)) (h1 : n1 = (c1.toNat : Int)) (h2 : n2 = (c2.toNat : Int)) (b : Nat) (hb : b = wx.heap.size) :
    (convert 22 9 (.slice (some ⟨b, 0, none⟩) 3 3)).run Tryz.prog (wx.alloc (.cells #[.int .u8 n0, .int .u8 n1, .int .u8 n2] t)) = .ok (.string ⟨#[c0, c1, c2]⟩) (wx.alloc (.cells #[.int .u8 n0, .int .u8 n1, .int .u8 n2] t)) := by
  subst h0 h1 h2 hb
  exact text3 _ _ c0 c1 c2 (by rw [World.cell?_alloc_mark]; rfl) (by rw [World.cell?_alloc_mark]; rfl) (by rw [World.cell?_alloc_mark]; rfl)

theorem implMonthName_any (y m d h i s : Int) (w : World) (hN : TabN w) (h1 : 1 ≤ m) (h2 : m ≤ 12) :
    Calls Tryz.prog 152 #[.agg #[.int .i64 y, .int .i64 m, .int .i64 d, .int .i64 h, .int .i64 i, .int .i64 s]] w fun e w' => e = .returned (.string (mname m)) ∧ Below w.heap.size w w' := by
  have hN0 := hN.alloc (.cells #[.int .i64 y, .int .i64 m, .int .i64 d, .int .i64 h, .int .i64 i, .int .i64 s] 93)
  have : m = 1 ∨ m = 2 ∨ m = 3 ∨ m = 4 ∨ m = 5 ∨ m = 6 ∨ m = 7 ∨ m = 8 ∨ m = 9 ∨ m = 10 ∨ m = 11 ∨ m = 12 := by omega
  clear h1 h2
  rcases this with rfl | rfl | rfl | rfl | rfl | rfl | rfl | rfl | rfl | rfl | rfl | rfl
  · have e0 : (w.alloc (.cells #[.int .i64 y, .int .i64 1, .int .i64 d, .int .i64 h, .int .i64 i, .int .i64 s] 93)).cell? ⟨2, 0, none⟩ = some (.int .u8 74) := hN0 0 (by omega)
    have e1 : (w.alloc (.cells #[.int .i64 y, .int .i64 1, .int .i64 d, .int .i64 h, .int .i64 i, .int .i64 s] 93)).cell? ⟨2, 1, none⟩ = some (.int .u8 97) := hN0 1 (by omega)
    have e2 : (w.alloc (.cells #[.int .i64 y, .int .i64 1, .int .i64 d, .int .i64 h, .int .i64 i, .int .i64 s] 93)).cell? ⟨2, 2, none⟩ = some (.int .u8 110) := hN0 2 (by omega)
    have HR : Hid (mname 1 = ⟨#[74, 97, 110]⟩) := rfl
    have hcv := month_conv (w.alloc (.cells #[.int .i64 y, .int .i64 1, .int .i64 d, .int .i64 h, .int .i64 i, .int .i64 s] 93)) 74 97 110 74 97 110 171 rfl rfl rfl (w.heap.size + 1) (by simp)
    go_enter Tryz.func152, Tryz.ntmps152
    go_wp2_with fail
    go_ret
    exact ⟨ret_str HR.out.symm, ((Below.refl _ _).alloc (Nat.le_refl _) _).alloc (by simp) _⟩
  · have e0 : (w.alloc (.cells #[.int .i64 y, .int .i64 2, .int .i64 d, .int .i64 h, .int .i64 i, .int .i64 s] 93)).cell? ⟨2, 3, none⟩ = some (.int .u8 70) := hN0 3 (by omega)
    have e1 : (w.alloc (.cells #[.int .i64 y, .int .i64 2, .int .i64 d, .int .i64 h, .int .i64 i, .int .i64 s] 93)).cell? ⟨2, 4, none⟩ = some (.int .u8 101) := hN0 4 (by omega)
    have e2 : (w.alloc (.cells #[.int .i64 y, .int .i64 2, .int .i64 d, .int .i64 h, .int .i64 i, .int .i64 s] 93)).cell? ⟨2, 5, none⟩ = some (.int .u8 98) := hN0 5 (by omega)
    have HR : Hid (mname 2 = ⟨#[70, 101, 98]⟩) := rfl
    have hcv := month_conv (w.alloc (.cells #[.int .i64 y, .int .i64 2, .int .i64 d, .int .i64 h, .int .i64 i, .int .i64 s] 93)) 70 101 98 70 101 98 171 rfl rfl rfl (w.heap.size + 1) (by simp)
    go_enter Tryz.func152, Tryz.ntmps152
    go_wp2_with fail
    go_ret
    exact ⟨ret_str HR.out.symm, ((Below.refl _ _).alloc (Nat.le_refl _) _).alloc (by simp) _⟩
  · have e0 : (w.alloc (.cells #[.int .i64 y, .int .i64 3, .int .i64 d, .int .i64 h, .int .i64 i, .int .i64 s] 93)).cell? ⟨2, 6, none⟩ = some (.int .u8 77) := hN0 6 (by omega)
    have e1 : (w.alloc (.cells #[.int .i64 y, .int .i64 3, .int .i64 d, .int .i64 h, .int .i64 i, .int .i64 s] 93)).cell? ⟨2, 7, none⟩ = some (.int .u8 97) := hN0 7 (by omega)
    have e2 : (w.alloc (.cells #[.int .i64 y, .int .i64 3, .int .i64 d, .int .i64 h, .int .i64 i, .int .i64 s] 93)).cell? ⟨2, 8, none⟩ = some (.int .u8 114) := hN0 8 (by omega)
    have HR : Hid (mname 3 = ⟨#[77, 97, 114]⟩) := rfl
    have hcv := month_conv (w.alloc (.cells #[.int .i64 y, .int .i64 3, .int .i64 d, .int .i64 h, .int .i64 i, .int .i64 s] 93)) 77 97 114 77 97 114 171 rfl rfl rfl (w.heap.size + 1) (by simp)
    go_enter Tryz.func152, Tryz.ntmps152
    go_wp2_with fail
    go_ret
    exact ⟨ret_str HR.out.symm, ((Below.refl _ _).alloc (Nat.le_refl _) _).alloc (by simp) _⟩
  · have e0 : (w.alloc (.cells #[.int .i64 y, .int .i64 4, .int .i64 d, .int .i64 h, .int .i64 i, .int .i64 s] 93)).cell? ⟨2, 9, none⟩ = some (.int .u8 65) := hN0 9 (by omega)
    have e1 : (w.alloc (.cells #[.int .i64 y, .int .i64 4, .int .i64 d, .int .i64 h, .int .i64 i, .int .i64 s] 93)).cell? ⟨2, 10, none⟩ = some (.int .u8 112) := hN0 10 (by omega)
    have e2 : (w.alloc (.cells #[.int .i64 y, .int .i64 4, .int .i64 d, .int .i64 h, .int .i64 i, .int .i64 s] 93)).cell? ⟨2, 11, none⟩ = some (.int .u8 114) := hN0 11 (by omega)
    have HR : Hid (mname 4 = ⟨#[65, 112, 114]⟩) := rfl
    have hcv := month_conv (w.alloc (.cells #[.int .i64 y, .int .i64 4, .int .i64 d, .int .i64 h, .int .i64 i, .int .i64 s] 93)) 65 112 114 65 112 114 171 rfl rfl rfl (w.heap.size + 1) (by simp)
    go_enter Tryz.func152, Tryz.ntmps152
    go_wp2_with fail
    go_ret
    exact ⟨ret_str HR.out.symm, ((Below.refl _ _).alloc (Nat.le_refl _) _).alloc (by simp) _⟩
  · have e0 : (w.alloc (.cells #[.int .i64 y, .int .i64 5, .int .i64 d, .int .i64 h, .int .i64 i, .int .i64 s] 93)).cell? ⟨2, 12, none⟩ = some (.int .u8 77) := hN0 12 (by omega)
    have e1 : (w.alloc (.cells #[.int .i64 y, .int .i64 5, .int .i64 d, .int .i64 h, .int .i64 i, .int .i64 s] 93)).cell? ⟨2, 13, none⟩ = some (.int .u8 97) := hN0 13 (by omega)
    have e2 : (w.alloc (.cells #[.int .i64 y, .int .i64 5, .int .i64 d, .int .i64 h, .int .i64 i, .int .i64 s] 93)).cell? ⟨2, 14, none⟩ = some (.int .u8 121) := hN0 14 (by omega)
    have HR : Hid (mname 5 = ⟨#[77, 97, 121]⟩) := rfl
    have hcv := month_conv (w.alloc (.cells #[.int .i64 y, .int .i64 5, .int .i64 d, .int .i64 h, .int .i64 i, .int .i64 s] 93)) 77 97 121 77 97 121 171 rfl rfl rfl (w.heap.size + 1) (by simp)
    go_enter Tryz.func152, Tryz.ntmps152
    go_wp2_with fail
    go_ret
    exact ⟨ret_str HR.out.symm, ((Below.refl _ _).alloc (Nat.le_refl _) _).alloc (by simp) _⟩
  · have e0 : (w.alloc (.cells #[.int .i64 y, .int .i64 6, .int .i64 d, .int .i64 h, .int .i64 i, .int .i64 s] 93)).cell? ⟨2, 15, none⟩ = some (.int .u8 74) := hN0 15 (by omega)
    have e1 : (w.alloc (.cells #[.int .i64 y, .int .i64 6, .int .i64 d, .int .i64 h, .int .i64 i, .int .i64 s] 93)).cell? ⟨2, 16, none⟩ = some (.int .u8 117) := hN0 16 (by omega)
    have e2 : (w.alloc (.cells #[.int .i64 y, .int .i64 6, .int .i64 d, .int .i64 h, .int .i64 i, .int .i64 s] 93)).cell? ⟨2, 17, none⟩ = some (.int .u8 110) := hN0 17 (by omega)
    have HR : Hid (mname 6 = ⟨#[74, 117, 110]⟩) := rfl
    have hcv := month_conv (w.alloc (.cells #[.int .i64 y, .int .i64 6, .int .i64 d, .int .i64 h, .int .i64 i, .int .i64 s] 93)) 74 117 110 74 117 110 171 rfl rfl rfl (w.heap.size + 1) (by simp)
    go_enter Tryz.func152, Tryz.ntmps152
    go_wp2_with fail
    go_ret
    exact ⟨ret_str HR.out.symm, ((Below.refl _ _).alloc (Nat.le_refl _) _).alloc (by simp) _⟩
  · have e0 : (w.alloc (.cells #[.int .i64 y, .int .i64 7, .int .i64 d, .int .i64 h, .int .i64 i, .int .i64 s] 93)).cell? ⟨2, 18, none⟩ = some (.int .u8 74) := hN0 18 (by omega)
    have e1 : (w.alloc (.cells #[.int .i64 y, .int .i64 7, .int .i64 d, .int .i64 h, .int .i64 i, .int .i64 s] 93)).cell? ⟨2, 19, none⟩ = some (.int .u8 117) := hN0 19 (by omega)
    have e2 : (w.alloc (.cells #[.int .i64 y, .int .i64 7, .int .i64 d, .int .i64 h, .int .i64 i, .int .i64 s] 93)).cell? ⟨2, 20, none⟩ = some (.int .u8 108) := hN0 20 (by omega)
    have HR : Hid (mname 7 = ⟨#[74, 117, 108]⟩) := rfl
    have hcv := month_conv (w.alloc (.cells #[.int .i64 y, .int .i64 7, .int .i64 d, .int .i64 h, .int .i64 i, .int .i64 s] 93)) 74 117 108 74 117 108 171 rfl rfl rfl (w.heap.size + 1) (by simp)
    go_enter Tryz.func152, Tryz.ntmps152
    go_wp2_with fail
    go_ret
    exact ⟨ret_str HR.out.symm, ((Below.refl _ _).alloc (Nat.le_refl _) _).alloc (by simp) _⟩
  · have e0 : (w.alloc (.cells #[.int .i64 y, .int .i64 8, .int .i64 d, .int .i64 h, .int .i64 i, .int .i64 s] 93)).cell? ⟨2, 21, none⟩ = some (.int .u8 65) := hN0 21 (by omega)
    have e1 : (w.alloc (.cells #[.int .i64 y, .int .i64 8, .int .i64 d, .int .i64 h, .int .i64 i, .int .i64 s] 93)).cell? ⟨2, 22, none⟩ = some (.int .u8 117) := hN0 22 (by omega)
    have e2 : (w.alloc (.cells #[.int .i64 y, .int .i64 8, .int .i64 d, .int .i64 h, .int .i64 i, .int .i64 s] 93)).cell? ⟨2, 23, none⟩ = some (.int .u8 103) := hN0 23 (by omega)
    have HR : Hid (mname 8 = ⟨#[65, 117, 103]⟩) := rfl
    have hcv := month_conv (w.alloc (.cells #[.int .i64 y, .int .i64 8, .int .i64 d, .int .i64 h, .int .i64 i, .int .i64 s] 93)) 65 117 103 65 117 103 171 rfl rfl rfl (w.heap.size + 1) (by simp)
    go_enter Tryz.func152, Tryz.ntmps152
    go_wp2_with fail
    go_ret
    exact ⟨ret_str HR.out.symm, ((Below.refl _ _).alloc (Nat.le_refl _) _).alloc (by simp) _⟩
  · have e0 : (w.alloc (.cells #[.int .i64 y, .int .i64 9, .int .i64 d, .int .i64 h, .int .i64 i, .int .i64 s] 93)).cell? ⟨2, 24, none⟩ = some (.int .u8 83) := hN0 24 (by omega)
    have e1 : (w.alloc (.cells #[.int .i64 y, .int .i64 9, .int .i64 d, .int .i64 h, .int .i64 i, .int .i64 s] 93)).cell? ⟨2, 25, none⟩ = some (.int .u8 101) := hN0 25 (by omega)
    have e2 : (w.alloc (.cells #[.int .i64 y, .int .i64 9, .int .i64 d, .int .i64 h, .int .i64 i, .int .i64 s] 93)).cell? ⟨2, 26, none⟩ = some (.int .u8 112) := hN0 26 (by omega)
    have HR : Hid (mname 9 = ⟨#[83, 101, 112]⟩) := rfl
    have hcv := month_conv (w.alloc (.cells #[.int .i64 y, .int .i64 9, .int .i64 d, .int .i64 h, .int .i64 i, .int .i64 s] 93)) 83 101 112 83 101 112 171 rfl rfl rfl (w.heap.size + 1) (by simp)
    go_enter Tryz.func152, Tryz.ntmps152
    go_wp2_with fail
    go_ret
    exact ⟨ret_str HR.out.symm, ((Below.refl _ _).alloc (Nat.le_refl _) _).alloc (by simp) _⟩
  · have e0 : (w.alloc (.cells #[.int .i64 y, .int .i64 10, .int .i64 d, .int .i64 h, .int .i64 i, .int .i64 s] 93)).cell? ⟨2, 27, none⟩ = some (.int .u8 79) := hN0 27 (by omega)
    have e1 : (w.alloc (.cells #[.int .i64 y, .int .i64 10, .int .i64 d, .int .i64 h, .int .i64 i, .int .i64 s] 93)).cell? ⟨2, 28, none⟩ = some (.int .u8 99) := hN0 28 (by omega)
    have e2 : (w.alloc (.cells #[.int .i64 y, .int .i64 10, .int .i64 d, .int .i64 h, .int .i64 i, .int .i64 s] 93)).cell? ⟨2, 29, none⟩ = some (.int .u8 116) := hN0 29 (by omega)
    have HR : Hid (mname 10 = ⟨#[79, 99, 116]⟩) := rfl
    have hcv := month_conv (w.alloc (.cells #[.int .i64 y, .int .i64 10, .int .i64 d, .int .i64 h, .int .i64 i, .int .i64 s] 93)) 79 99 116 79 99 116 171 rfl rfl rfl (w.heap.size + 1) (by simp)
    go_enter Tryz.func152, Tryz.ntmps152
    go_wp2_with fail
    go_ret
    exact ⟨ret_str HR.out.symm, ((Below.refl _ _).alloc (Nat.le_refl _) _).alloc (by simp) _⟩
  · have e0 : (w.alloc (.cells #[.int .i64 y, .int .i64 11, .int .i64 d, .int .i64 h, .int .i64 i, .int .i64 s] 93)).cell? ⟨2, 30, none⟩ = some (.int .u8 78) := hN0 30 (by omega)
    have e1 : (w.alloc (.cells #[.int .i64 y, .int .i64 11, .int .i64 d, .int .i64 h, .int .i64 i, .int .i64 s] 93)).cell? ⟨2, 31, none⟩ = some (.int .u8 111) := hN0 31 (by omega)
    have e2 : (w.alloc (.cells #[.int .i64 y, .int .i64 11, .int .i64 d, .int .i64 h, .int .i64 i, .int .i64 s] 93)).cell? ⟨2, 32, none⟩ = some (.int .u8 118) := hN0 32 (by omega)
    have HR : Hid (mname 11 = ⟨#[78, 111, 118]⟩) := rfl
    have hcv := month_conv (w.alloc (.cells #[.int .i64 y, .int .i64 11, .int .i64 d, .int .i64 h, .int .i64 i, .int .i64 s] 93)) 78 111 118 78 111 118 171 rfl rfl rfl (w.heap.size + 1) (by simp)
    go_enter Tryz.func152, Tryz.ntmps152
    go_wp2_with fail
    go_ret
    exact ⟨ret_str HR.out.symm, ((Below.refl _ _).alloc (Nat.le_refl _) _).alloc (by simp) _⟩
  · have e0 : (w.alloc (.cells #[.int .i64 y, .int .i64 12, .int .i64 d, .int .i64 h, .int .i64 i, .int .i64 s] 93)).cell? ⟨2, 33, none⟩ = some (.int .u8 68) := hN0 33 (by omega)
    have e1 : (w.alloc (.cells #[.int .i64 y, .int .i64 12, .int .i64 d, .int .i64 h, .int .i64 i, .int .i64 s] 93)).cell? ⟨2, 34, none⟩ = some (.int .u8 101) := hN0 34 (by omega)
    have e2 : (w.alloc (.cells #[.int .i64 y, .int .i64 12, .int .i64 d, .int .i64 h, .int .i64 i, .int .i64 s] 93)).cell? ⟨2, 35, none⟩ = some (.int .u8 99) := hN0 35 (by omega)
    have HR : Hid (mname 12 = ⟨#[68, 101, 99]⟩) := rfl
    have hcv := month_conv (w.alloc (.cells #[.int .i64 y, .int .i64 12, .int .i64 d, .int .i64 h, .int .i64 i, .int .i64 s] 93)) 68 101 99 68 101 99 171 rfl rfl rfl (w.heap.size + 1) (by simp)
    go_enter Tryz.func152, Tryz.ntmps152
    go_wp2_with fail
    go_ret
    exact ⟨ret_str HR.out.symm, ((Below.refl _ _).alloc (Nat.le_refl _) _).alloc (by simp) _⟩

end Go.Proofs.YtgidmoncocbfiaaGreatDoor.Nam

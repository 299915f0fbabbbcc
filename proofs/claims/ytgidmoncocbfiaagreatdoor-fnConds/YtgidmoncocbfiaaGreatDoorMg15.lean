/-
  Pure: what conditions come to. A state in a block.
  Walks: impl.isAskedFor; the conditions' holds.
  Walks: the conditions' holds; impl.outcomeOf at each condition.
-/
import Derived.Test.YtgidmoncocbfiaaGreatDoorMg4
import Derived.Test.YtgidmoncocbfiaaGreatDoorMg14
import Derived.Test.YtgidmoncocbfiaaGreatDoorTgy
import Derived.Test.YtgidmoncocbfiaaGreatDoorMg2
namespace Go.Proofs.YtgidmoncocbfiaaGreatDoor.Cds
open Go.RowKit
open Go.Proofs.YtgidmoncocbfiaaGreatDoor.Tga Go.Proofs.YtgidmoncocbfiaaGreatDoor.Tgb Go.Proofs.YtgidmoncocbfiaaGreatDoor.Tgx
open Go.Proofs.YtgidmoncocbfiaaGreatDoor.Fvs
open Go.Proofs.YtgidmoncocbfiaaGreatDoor.Fdb (FV)
open Go.Proofs.YtgidmoncocbfiaaGreatDoor.Jnd (joinS)
open Go.Proofs.YtgidmoncocbfiaaGreatDoor.Cda
open Go.Proofs.YtgidmoncocbfiaaGreatDoor.Lsp (listO)
open Go.Proofs.YtgidmoncocbfiaaGreatDoor.Fgd

def nIm : ByteArray := ⟨#[105, 102, 45, 109, 97, 116, 99, 104]⟩
def nIus : ByteArray := ⟨#[105, 102, 45, 117, 110, 109, 111, 100, 105, 102, 105, 101, 100, 45, 115, 105, 110, 99, 101]⟩
def nInm : ByteArray := ⟨#[105, 102, 45, 110, 111, 110, 101, 45, 109, 97, 116, 99, 104]⟩
def nIms : ByteArray := ⟨#[105, 102, 45, 109, 111, 100, 105, 102, 105, 101, 100, 45, 115, 105, 110, 99, 101]⟩
def nIr : ByteArray := ⟨#[105, 102, 45, 114, 97, 110, 103, 101]⟩

/-- What is joined of a name; whether there is any; its tags. -/
def hasN (l : List (ByteArray × ByteArray)) (n : ByteArray) : Bool := decide (0 < (valsOf n l).length)
def lstN (l : List (ByteArray × ByteArray)) (n : ByteArray) : Option (List ByteArray) := listO (joinS (valsOf n l))
def matN (l : List (ByteArray × ByteArray)) (n : ByteArray) (th tg K : Bool) (T : ByteArray) (strong : Bool) : Bool := matchB (tagsR (lstN l n)) (oneR (lstN l n)) th tg K T strong
/-- GET and HEAD. -/
def looksB (m : ByteArray) : Bool := (m.toList == [71, 69, 84]) || (m.toList == [72, 69, 65, 68])
/-- Whether what must be so is not. -/
noncomputable def failsB (l : List (ByteArray × ByteArray)) (th tg K : Bool) (T : ByteArray) (dt : Bool) (md : Int) : Bool :=
  if hasN l nIm then okR (lstN l nIm) && !matN l nIm th tg K T true else (dateP l nIus).isSome && (dt && decide ((dateP l nIus).getD 0 < md))
/-- What comes of the conditions. -/
noncomputable def codeP (lk : Bool) (l : List (ByteArray × ByteArray)) (th tg K : Bool) (T : ByteArray) (dt : Bool) (md : Int) : Int :=
  if failsB l th tg K T dt md then 412
  else if hasN l nInm then (if okR (lstN l nInm) && matN l nInm th tg K T false then (if lk then 304 else 412) else 0)
  else if (dateP l nIms).isSome && (lk && (dt && decide (md ≤ (dateP l nIms).getD 0))) then 304 else 0

/-- What comes of the conditions, of their parts. -/
def codeF (lk h1 k1 m1 s1 : Bool) (D1 : Int) (h2 k2 m2 s2 : Bool) (D2 : Int) (dt : Bool) (md : Int) : Int :=
  if (if h1 then k1 && !m1 else s1 && (dt && decide (D1 < md))) then 412
  else if h2 then (if k2 && m2 then (if lk then 304 else 412) else 0)
  else if s2 && (lk && (dt && decide (md ≤ D2))) then 304 else 0
theorem code_parts (lk : Bool) (l : List (ByteArray × ByteArray)) (th tg K : Bool) (T : ByteArray) (dt : Bool) (md : Int) : codeP lk l th tg K T dt md = codeF lk (hasN l nIm) (okR (lstN l nIm)) (matN l nIm th tg K T true) (dateP l nIus).isSome ((dateP l nIus).getD 0) (hasN l nInm) (okR (lstN l nInm)) (matN l nInm th tg K T false) (dateP l nIms).isSome ((dateP l nIms).getD 0) dt md := rfl

/-- A state lies in a block. -/
def SB (b : Nat) (w : World) (th tg K : Bool) (T : ByteArray) (dt : Bool) (md : Int) : Prop := b < w.heap.size ∧ w.cell? ⟨b, 0, none⟩ = some (.bool th) ∧ w.cell? ⟨b, 1, none⟩ = some (.bool tg) ∧ w.cell? ⟨b, 2, none⟩ = some (.bool K) ∧ w.cell? ⟨b, 3, none⟩ = some (.string T) ∧ w.cell? ⟨b, 4, none⟩ = some (.bool dt) ∧ w.cell? ⟨b, 5, none⟩ = some (.int .i64 md)
theorem SB.parts {b : Nat} {w : World} {th tg K : Bool} {T : ByteArray} {dt : Bool} {md : Int} (h : SB b w th tg K T dt md) : b < w.heap.size ∧ w.cell? ⟨b, 0, none⟩ = some (.bool th) ∧ w.cell? ⟨b, 1, none⟩ = some (.bool tg) ∧ w.cell? ⟨b, 2, none⟩ = some (.bool K) ∧ w.cell? ⟨b, 3, none⟩ = some (.string T) ∧ w.cell? ⟨b, 4, none⟩ = some (.bool dt) ∧ w.cell? ⟨b, 5, none⟩ = some (.int .i64 md) := h
theorem SB.below {b : Nat} {w w' : World} {th tg K : Bool} {T : ByteArray} {dt : Bool} {md : Int} (h : SB b w th tg K T dt md) (hb : Below w.heap.size w w') : SB b w' th tg K T dt md := by
  obtain ⟨h1, c0, c1, c2, c3, c4, c5⟩ := h
  have e : ∀ i, w'.cell? ⟨b, i, none⟩ = w.cell? ⟨b, i, none⟩ := fun i => hb.cell (p := ⟨b, i, none⟩) h1
  exact ⟨Nat.lt_of_lt_of_le h1 hb.size, (e 0).trans c0, (e 1).trans c1, (e 2).trans c2, (e 3).trans c3, (e 4).trans c4, (e 5).trans c5⟩
theorem SB.made (w : World) (t : TypeId) (th tg K : Bool) (T : ByteArray) (dt : Bool) (md : Int) : SB w.heap.size (w.alloc (.cells #[.bool th, .bool tg, .bool K, .string T, .bool dt, .int .i64 md] t)) th tg K T dt md :=
  ⟨by simp, by rw [World.cell?_alloc_mark]; rfl, by rw [World.cell?_alloc_mark]; rfl, by rw [World.cell?_alloc_mark]; rfl, by rw [World.cell?_alloc_mark]; rfl, by rw [World.cell?_alloc_mark]; rfl, by rw [World.cell?_alloc_mark]; rfl⟩

theorem tags_len (o : Option (List ByteArray)) : (tagsR o).length ≤ 400 := by
  unfold tagsR
  split
  · rename_i h
    cases o with
    | none => simp [outs]
    | some l =>
      have h2 : kindL l = 2 := h
      unfold kindL at h2
      split at h2
      · have := outs_len l
        show (outs l).length ≤ 400
        omega
      · cases h2
  · exact Nat.zero_le _
theorem tags_gv {w' : World} {B : Nat} {e : Ending} {o : Option (List ByteArray)} (h : TagsP w' B e o) : ∃ a cap, e = .returned (.tuple #[.slice a (tagsR o).length cap, .bool (oneR o), .bool (okR o)]) ∧ GV w' a (tagsR o) B w'.heap.size := by
  obtain ⟨v, rfl, hv⟩ := h
  obtain ⟨a, cap, rfl, hg⟩ := gv_of hv
  exact ⟨a, cap, rfl, hg⟩

theorem join_le (l : List ByteArray) (m : Nat) (h : ∀ x ∈ l, x.size ≤ m) : ∀ k, k ≤ l.length → (joinS (l.take k)).size ≤ k * (m + 2)
  | 0, _ => by rw [List.take_zero, Jnd.joinS_nil]; exact Nat.zero_le _
  | k + 1, hk => by
    have ih := join_le l m h k (by omega)
    have hx := h l[k] (List.getElem_mem hk)
    have c2 : (⟨#[44, 32]⟩ : ByteArray).size = 2 := rfl
    have e : (k + 1) * (m + 2) = k * (m + 2) + (m + 2) := Nat.succ_mul _ _
    by_cases h0 : 0 < k
    · rw [Jnd.joinS_more hk h0, ByteArray.size_append, ByteArray.size_append, c2, e]
      omega
    · obtain rfl : k = 0 := by omega
      rw [Nat.zero_add, Jnd.joinS_first (by omega)]
      omega
theorem good_join {l : List (ByteArray × ByteArray)} (hg : goodL l = true) (n : ByteArray) : (joinS (valsOf n l)).size ≤ 2000000 := by
  obtain ⟨h1, h2⟩ := goodL_all hg
  have hm : ∀ x ∈ valsOf n l, x.size ≤ 300 := fun x hx => by
    obtain ⟨c, hc, rfl⟩ := vals_mem hx
    have := h2 c hc
    unfold Fgd.goodF at this
    simp only [Bool.and_eq_true, decide_eq_true_eq] at this
    exact this.1.1.2
  have := join_le _ 300 hm _ (Nat.le_refl _)
  rw [List.take_length] at this
  have hl := valsOf_len n l
  have : (valsOf n l).length * (300 + 2) ≤ 40 * 302 := Nat.mul_le_mul_right _ (by omega)
  omega

end Go.Proofs.YtgidmoncocbfiaaGreatDoor.Cds

namespace Go.Proofs.YtgidmoncocbfiaaGreatDoor.Cds
open Go.RowKit
open Go.Proofs.YtgidmoncocbfiaaGreatDoor.Fbs (ret_bool)
open Go.Proofs.YtgidmoncocbfiaaGreatDoor.Tga Go.Proofs.YtgidmoncocbfiaaGreatDoor.Tgb Go.Proofs.YtgidmoncocbfiaaGreatDoor.Tgx
open Go.Proofs.YtgidmoncocbfiaaGreatDoor.Lsp (listO)

theorem read_good {x : ByteArray} {c : Bool × ByteArray} (h : readT x = some c) : tagB c.2 = true := by
  have key : ∀ y t, inQ y = some t → tagB t = true := by
    intro y t h
    unfold inQ at h
    split at h
    · rename_i h2
      cases h
      exact h2.2
    · cases h
  unfold readT at h
  split at h
  · cases hq : inQ (x.extract 2 x.size) with
    | none => rw [hq] at h; cases h
    | some t => rw [hq] at h; cases h; exact key _ _ hq
  · cases hq : inQ x with
    | none => rw [hq] at h; cases h
    | some t => rw [hq] at h; cases h; exact key _ _ hq
theorem tags_good (o : Option (List ByteArray)) : ∀ c ∈ tagsR o, tagB c.2 = true := by
  unfold tagsR
  split
  · intro c hc
    unfold outs at hc
    rw [List.mem_filterMap] at hc
    obtain ⟨x, _, hx⟩ := hc
    exact read_good hx
  · intro c hc; cases hc
theorem tag_small {t : ByteArray} (h : tagB t = true) : t.size ≤ 60 := by
  unfold tagB at h
  rw [Bool.and_eq_true] at h
  exact of_decide_eq_true h.2
theorem it_strong (tg K : Bool) {T : ByteArray} {c : Bool × ByteArray} (h1 : tagB T = true) (h2 : tagB c.2 = true) : isIt tg K T true c = (strongB c.1 c.2 K T && tg) := by
  unfold isIt strongB
  rw [h1, h2]
  cases tg <;> cases c.1 <;> cases K <;> simp
theorem it_weak (tg K : Bool) {T : ByteArray} {c : Bool × ByteArray} (h1 : tagB T = true) (h2 : tagB c.2 = true) : isIt tg K T false c = (sameB c.2 T && tg) := by
  unfold isIt sameB
  rw [h1, h2]
  cases tg <;> simp

set_option maxRecDepth 20000 in
set_option maxHeartbeats 1600000 in
theorem asked_strong (a : Option Addr) (ca : Nat) (l : List (Bool × ByteArray)) (any th tg K : Bool) (T : ByteArray) (dt : Bool) (md : Int) (w : World) (lo hi : Nat) (hT : tagB T = true) (hg : ∀ c ∈ l, tagB c.2 = true) (hl : l.length ≤ 1000) (ha : GV w a l lo hi) :
    Calls Tryz.prog 204 #[.agg #[.slice a l.length ca, .bool any], stV th tg K T dt md, .func (.func 67) #[] #[]] w fun e w' => e = .returned (.bool (matchB l any th tg K T true)) ∧ Below w.heap.size w w' := by
  have hb2 : Below w.heap.size w ((w.alloc (.cells #[.slice a l.length ca, .bool any] 209)).alloc (.cells #[.bool th, .bool tg, .bool K, .string T, .bool dt, .int .i64 md] 27)) := ((Below.refl _ _).alloc (Nat.le_refl _) _).alloc (by simp) _
  cases any
  rotate_left
  · have HB2 : Hid _ := hb2
    clear hb2
    go_enter Tryz.func204, Tryz.ntmps204
    go_wp2_with fail
    go_ret
    exact ⟨rfl, HB2.out⟩
  obtain ⟨W, hW⟩ : ∃ W, W = (w.alloc (.cells #[.slice a l.length ca, .bool false] 209)).alloc (.cells #[.bool th, .bool tg, .bool K, .string T, .bool dt, .int .i64 md] 27) := ⟨_, rfl⟩
  have hn : w.heap.size + 2 = W.heap.size := by rw [hW]; simp
  have x1 : W.cell? ⟨w.heap.size + 1, 1, none⟩ = some (.bool tg) := by rw [hW]; simp [go_sem]
  have x2 : W.cell? ⟨w.heap.size + 1, 2, none⟩ = some (.bool K) := by rw [hW]; simp [go_sem]
  have x3 : W.cell? ⟨w.heap.size + 1, 3, none⟩ = some (.string T) := by rw [hW]; simp [go_sem]
  rw [← hW] at hb2
  have HB0 : Hid (Below w.heap.size w W) := hb2
  have HA : Hid (GV W a l lo hi) := by show GV _ _ _ _ _; exact ha.below hb2
  have hTz := tag_small hT
  clear ha hb2
  go_enter Tryz.func204, Tryz.ntmps204
  go_wp2_with fail
  rw [← hW]
  clear hW
  go_loopw [18] (fun cv wr => ∃ i : Nat, i ≤ l.length ∧ cv = .int .i64 i ∧ Hid (∀ j, (hj : j < l.length) → j < i → isIt tg K T true l[j] = false) ∧ Hid (Below W.heap.size W wr)) (fun cv _ => l.length - (intOf cv).toNat)
  case atStart => exact ⟨0, by omega, rfl, fun j _ h => absurd h (by omega), Below.refl _ _⟩
  case round =>
    obtain ⟨i, hi, rfl, HN, HW⟩ := hrel
    have HZ : Hid (Below w.heap.size w wr) := HB0.out.trans (HW.out.mono HB0.out.size)
    have y1 := (HW.out.cell (p := ⟨w.heap.size + 1, 1, none⟩) (by show w.heap.size + 1 < _; omega)).trans x1
    have y2 := (HW.out.cell (p := ⟨w.heap.size + 1, 2, none⟩) (by show w.heap.size + 1 < _; omega)).trans x2
    have y3 := (HW.out.cell (p := ⟨w.heap.size + 1, 3, none⟩) (by show w.heap.size + 1 < _; omega)).trans x3
    have hnr : w.heap.size + 2 ≤ wr.heap.size := by have := HW.out.size; omega
    clear x1 x2 x3
    by_cases hlt : i < l.length
    · obtain ⟨g, rfl, hr⟩ : ∃ g, a = some ⟨g, 0, none⟩ ∧ RowG W g l := by
        rcases HA.out with h | ⟨g, h1, _, _, h4⟩
        · rw [h] at hlt; simp at hlt
        · exact ⟨g, h1, h4⟩
      obtain ⟨c0, c1⟩ := (hr.below HW.out).2.2 i l[i] (List.getElem?_eq_getElem hlt)
      have hgi := hg l[i] (List.getElem_mem hlt)
      have hzi := tag_small hgi
      have HNx : Hid (isIt tg K T true l[i] = false → ∀ j, (hj : j < l.length) → j < i + 1 → isIt tg K T true l[j] = false) := by
        intro h j hj hji
        by_cases e : j = i
        · subst e; exact h
        · exact HN.out j hj (by omega)
      have HYx : Hid (isIt tg K T true l[i] = true → matchB l false th tg K T true = true) := fun h => any_yes hlt h
      have hM := it_strong tg K (c := l[i]) hT hgi
      obtain ⟨X, hX⟩ : ∃ X, X = l[i].1 := ⟨_, rfl⟩
      obtain ⟨z, hz⟩ : ∃ z, z = l[i].2 := ⟨_, rfl⟩
      rw [← hX] at c0
      rw [← hz] at c1 hzi
      rw [hM, ← hz] at HNx HYx
      rw [← hX] at HNx HYx
      have HSm : Hid _ := fun wx => Tgi.implStrongSame_any X z K T wx (by omega) (by omega)
      generalize strongB X z K T = q at HSm HNx HYx
      generalize (tagB z && tagB T) = bb at HSm
      have hgl : g < wr.heap.size := (hr.below HW.out).1
      have f1 : (wr.alloc (.cells #[.bool X, .string z] 25)).cell? ⟨w.heap.size + 1, 1, none⟩ = some (.bool tg) := by rw [World.cell?_alloc_past _ _ _ (by omega)]; exact y1
      have f2 : (wr.alloc (.cells #[.bool X, .string z] 25)).cell? ⟨w.heap.size + 1, 2, none⟩ = some (.bool K) := by rw [World.cell?_alloc_past _ _ _ (by omega)]; exact y2
      have f3 : (wr.alloc (.cells #[.bool X, .string z] 25)).cell? ⟨w.heap.size + 1, 3, none⟩ = some (.string T) := by rw [World.cell?_alloc_past _ _ _ (by omega)]; exact y3
      clear hM hX hz HN hr HA
      go_wp2_with fail
      refine Calls.mono (HSm.out _) ?_
      rintro e w2 ⟨rfl, hb⟩
      have hbW : Below W.heap.size W (wr.alloc (.cells #[.bool X, .string z] 25)) := HW.out.alloc HW.out.size _
      have hbw : Below w.heap.size w (wr.alloc (.cells #[.bool X, .string z] 25)) := HZ.out.alloc HZ.out.size _
      have HW2 : Hid (Below W.heap.size W w2) := hbW.trans (hb.mono hbW.size)
      have HZ2 : Hid (Below w.heap.size w w2) := hbw.trans (hb.mono hbw.size)
      have z1 := (hb.cell (p := ⟨w.heap.size + 1, 1, none⟩) (by show w.heap.size + 1 < _; rw [World.size_alloc]; omega)).trans f1
      clear hb hbW hbw y1 y2 y3 f1 f2 f3 HW HZ HSm c0 c1 hgl
      cases q
      · have HNy : Hid _ := HNx.out rfl
        clear HNx HYx
        go_wp2_with fail
        refine ⟨⟨i + 1, by omega, by go_num, HNy, HW2⟩, ?_⟩
        simp [intOf]; omega
      cases tg
      · have HNy : Hid _ := HNx.out rfl
        clear HNx HYx
        go_wp2_with fail
        refine ⟨⟨i + 1, by omega, by go_num, HNy, HW2⟩, ?_⟩
        simp [intOf]; omega
      · have HYy : Hid _ := HYx.out rfl
        clear HNx HYx
        go_wp2_with fail
        go_ret
        exact ⟨ret_bool HYy.out.symm, HZ2.out⟩
    · obtain rfl : i = l.length := by omega
      have HR : Hid (matchB l false th tg K T true = false) := any_no (fun j hj => HN.out j hj hj)
      clear HN HA
      go_wp2_with fail
      go_ret
      exact ⟨ret_bool HR.out.symm, HZ.out⟩

set_option maxRecDepth 20000 in
set_option maxHeartbeats 1600000 in
theorem asked_weak (a : Option Addr) (ca : Nat) (l : List (Bool × ByteArray)) (any th tg K : Bool) (T : ByteArray) (dt : Bool) (md : Int) (w : World) (lo hi : Nat) (hT : tagB T = true) (hg : ∀ c ∈ l, tagB c.2 = true) (hl : l.length ≤ 1000) (ha : GV w a l lo hi) :
    Calls Tryz.prog 204 #[.agg #[.slice a l.length ca, .bool any], stV th tg K T dt md, .func (.func 91) #[] #[]] w fun e w' => e = .returned (.bool (matchB l any th tg K T false)) ∧ Below w.heap.size w w' := by
  have hb2 : Below w.heap.size w ((w.alloc (.cells #[.slice a l.length ca, .bool any] 209)).alloc (.cells #[.bool th, .bool tg, .bool K, .string T, .bool dt, .int .i64 md] 27)) := ((Below.refl _ _).alloc (Nat.le_refl _) _).alloc (by simp) _
  cases any
  rotate_left
  · have HB2 : Hid _ := hb2
    clear hb2
    go_enter Tryz.func204, Tryz.ntmps204
    go_wp2_with fail
    go_ret
    exact ⟨rfl, HB2.out⟩
  obtain ⟨W, hW⟩ : ∃ W, W = (w.alloc (.cells #[.slice a l.length ca, .bool false] 209)).alloc (.cells #[.bool th, .bool tg, .bool K, .string T, .bool dt, .int .i64 md] 27) := ⟨_, rfl⟩
  have hn : w.heap.size + 2 = W.heap.size := by rw [hW]; simp
  have x1 : W.cell? ⟨w.heap.size + 1, 1, none⟩ = some (.bool tg) := by rw [hW]; simp [go_sem]
  have x2 : W.cell? ⟨w.heap.size + 1, 2, none⟩ = some (.bool K) := by rw [hW]; simp [go_sem]
  have x3 : W.cell? ⟨w.heap.size + 1, 3, none⟩ = some (.string T) := by rw [hW]; simp [go_sem]
  rw [← hW] at hb2
  have HB0 : Hid (Below w.heap.size w W) := hb2
  have HA : Hid (GV W a l lo hi) := by show GV _ _ _ _ _; exact ha.below hb2
  have hTz := tag_small hT
  clear ha hb2
  go_enter Tryz.func204, Tryz.ntmps204
  go_wp2_with fail
  rw [← hW]
  clear hW
  go_loopw [18] (fun cv wr => ∃ i : Nat, i ≤ l.length ∧ cv = .int .i64 i ∧ Hid (∀ j, (hj : j < l.length) → j < i → isIt tg K T false l[j] = false) ∧ Hid (Below W.heap.size W wr)) (fun cv _ => l.length - (intOf cv).toNat)
  case atStart => exact ⟨0, by omega, rfl, fun j _ h => absurd h (by omega), Below.refl _ _⟩
  case round =>
    obtain ⟨i, hi, rfl, HN, HW⟩ := hrel
    have HZ : Hid (Below w.heap.size w wr) := HB0.out.trans (HW.out.mono HB0.out.size)
    have y1 := (HW.out.cell (p := ⟨w.heap.size + 1, 1, none⟩) (by show w.heap.size + 1 < _; omega)).trans x1
    have y2 := (HW.out.cell (p := ⟨w.heap.size + 1, 2, none⟩) (by show w.heap.size + 1 < _; omega)).trans x2
    have y3 := (HW.out.cell (p := ⟨w.heap.size + 1, 3, none⟩) (by show w.heap.size + 1 < _; omega)).trans x3
    have hnr : w.heap.size + 2 ≤ wr.heap.size := by have := HW.out.size; omega
    clear x1 x2 x3
    by_cases hlt : i < l.length
    · obtain ⟨g, rfl, hr⟩ : ∃ g, a = some ⟨g, 0, none⟩ ∧ RowG W g l := by
        rcases HA.out with h | ⟨g, h1, _, _, h4⟩
        · rw [h] at hlt; simp at hlt
        · exact ⟨g, h1, h4⟩
      obtain ⟨c0, c1⟩ := (hr.below HW.out).2.2 i l[i] (List.getElem?_eq_getElem hlt)
      have hgi := hg l[i] (List.getElem_mem hlt)
      have hzi := tag_small hgi
      have HNx : Hid (isIt tg K T false l[i] = false → ∀ j, (hj : j < l.length) → j < i + 1 → isIt tg K T false l[j] = false) := by
        intro h j hj hji
        by_cases e : j = i
        · subst e; exact h
        · exact HN.out j hj (by omega)
      have HYx : Hid (isIt tg K T false l[i] = true → matchB l false th tg K T false = true) := fun h => any_yes hlt h
      have hM := it_weak tg K (c := l[i]) hT hgi
      obtain ⟨X, hX⟩ : ∃ X, X = l[i].1 := ⟨_, rfl⟩
      obtain ⟨z, hz⟩ : ∃ z, z = l[i].2 := ⟨_, rfl⟩
      rw [← hX] at c0
      rw [← hz] at c1 hzi
      rw [hM, ← hz] at HNx HYx
      skip
      have HSm : Hid _ := fun wx => Tgi.implWeakSame_any X z K T wx (by omega) (by omega)
      generalize sameB z T = q at HSm HNx HYx
      generalize (tagB z && tagB T) = bb at HSm
      have hgl : g < wr.heap.size := (hr.below HW.out).1
      have f1 : (wr.alloc (.cells #[.bool X, .string z] 25)).cell? ⟨w.heap.size + 1, 1, none⟩ = some (.bool tg) := by rw [World.cell?_alloc_past _ _ _ (by omega)]; exact y1
      have f2 : (wr.alloc (.cells #[.bool X, .string z] 25)).cell? ⟨w.heap.size + 1, 2, none⟩ = some (.bool K) := by rw [World.cell?_alloc_past _ _ _ (by omega)]; exact y2
      have f3 : (wr.alloc (.cells #[.bool X, .string z] 25)).cell? ⟨w.heap.size + 1, 3, none⟩ = some (.string T) := by rw [World.cell?_alloc_past _ _ _ (by omega)]; exact y3
      clear hM hX hz HN hr HA
      go_wp2_with fail
      refine Calls.mono (HSm.out _) ?_
      rintro e w2 ⟨rfl, hb⟩
      have hbW : Below W.heap.size W (wr.alloc (.cells #[.bool X, .string z] 25)) := HW.out.alloc HW.out.size _
      have hbw : Below w.heap.size w (wr.alloc (.cells #[.bool X, .string z] 25)) := HZ.out.alloc HZ.out.size _
      have HW2 : Hid (Below W.heap.size W w2) := hbW.trans (hb.mono hbW.size)
      have HZ2 : Hid (Below w.heap.size w w2) := hbw.trans (hb.mono hbw.size)
      have z1 := (hb.cell (p := ⟨w.heap.size + 1, 1, none⟩) (by show w.heap.size + 1 < _; rw [World.size_alloc]; omega)).trans f1
      clear hb hbW hbw y1 y2 y3 f1 f2 f3 HW HZ HSm c0 c1 hgl
      cases q
      · have HNy : Hid _ := HNx.out rfl
        clear HNx HYx
        go_wp2_with fail
        refine ⟨⟨i + 1, by omega, by go_num, HNy, HW2⟩, ?_⟩
        simp [intOf]; omega
      cases tg
      · have HNy : Hid _ := HNx.out rfl
        clear HNx HYx
        go_wp2_with fail
        refine ⟨⟨i + 1, by omega, by go_num, HNy, HW2⟩, ?_⟩
        simp [intOf]; omega
      · have HYy : Hid _ := HYx.out rfl
        clear HNx HYx
        go_wp2_with fail
        go_ret
        exact ⟨ret_bool HYy.out.symm, HZ2.out⟩
    · obtain rfl : i = l.length := by omega
      have HR : Hid (matchB l false th tg K T false = false) := any_no (fun j hj => HN.out j hj hj)
      clear HN HA
      go_wp2_with fail
      go_ret
      exact ⟨ret_bool HR.out.symm, HZ.out⟩

end Go.Proofs.YtgidmoncocbfiaaGreatDoor.Cds

namespace Go.Proofs.YtgidmoncocbfiaaGreatDoor.Cds
open Go.RowKit
open Go.Proofs.YtgidmoncocbfiaaGreatDoor.Fbs (ret_bool)
open Go.Proofs.YtgidmoncocbfiaaGreatDoor.Tga Go.Proofs.YtgidmoncocbfiaaGreatDoor.Tgb Go.Proofs.YtgidmoncocbfiaaGreatDoor.Tgx
open Go.Proofs.YtgidmoncocbfiaaGreatDoor.Wgt (ret_i)

theorem two_boxes {w : World} {A B : Obj} : Below w.heap.size w ((w.alloc A).alloc B) := ((Below.refl _ _).alloc (Nat.le_refl _) _).alloc (by simp) _

set_option maxRecDepth 20000 in
set_option maxHeartbeats 1600000 in
theorem holdsMatch_any (a : Option Addr) (ca : Nat) (l : List (Bool × ByteArray)) (any th tg K : Bool) (T : ByteArray) (dt : Bool) (md : Int) (w : World) (lo hi : Nat) (hT : tagB T = true) (hg : ∀ c ∈ l, tagB c.2 = true) (hl : l.length ≤ 1000) (ha : GV w a l lo hi) :
    Calls Tryz.prog 203 #[.agg #[.slice a l.length ca, .bool any], stV th tg K T dt md] w fun e w' => e = .returned (.bool (matchB l any th tg K T true)) ∧ Below w.heap.size w w' := by
  have HA : Hid (∀ wx, Below w.heap.size w wx → _) := fun wx hb => asked_strong a ca l any th tg K T dt md wx lo hi hT hg hl (ha.below hb)
  have HB : Hid (Below w.heap.size w ((w.alloc (.cells #[.slice a l.length ca, .bool any] 102)).alloc (.cells #[.bool th, .bool tg, .bool K, .string T, .bool dt, .int .i64 md] 27))) := two_boxes
  go_enter Tryz.func203, Tryz.ntmps203
  go_wp2_with fail
  refine Calls.mono (HA.out _ HB.out) ?_
  rintro e w2 ⟨rfl, hb⟩
  go_wp2_with fail
  go_ret
  exact ⟨rfl, HB.out.trans (hb.mono HB.out.size)⟩

set_option maxRecDepth 20000 in
set_option maxHeartbeats 1600000 in
theorem holdsNone_any (a : Option Addr) (ca : Nat) (l : List (Bool × ByteArray)) (any th tg K : Bool) (T : ByteArray) (dt : Bool) (md : Int) (w : World) (lo hi : Nat) (hT : tagB T = true) (hg : ∀ c ∈ l, tagB c.2 = true) (hl : l.length ≤ 1000) (ha : GV w a l lo hi) :
    Calls Tryz.prog 206 #[.agg #[.slice a l.length ca, .bool any], stV th tg K T dt md] w fun e w' => e = .returned (.bool (!matchB l any th tg K T false)) ∧ Below w.heap.size w w' := by
  have HA : Hid (∀ wx, Below w.heap.size w wx → _) := fun wx hb => asked_weak a ca l any th tg K T dt md wx lo hi hT hg hl (ha.below hb)
  have HB : Hid (Below w.heap.size w ((w.alloc (.cells #[.slice a l.length ca, .bool any] 104)).alloc (.cells #[.bool th, .bool tg, .bool K, .string T, .bool dt, .int .i64 md] 27))) := two_boxes
  generalize matchB l any th tg K T false = M at HA ⊢
  go_enter Tryz.func206, Tryz.ntmps206
  go_wp2_with fail
  refine Calls.mono (HA.out _ HB.out) ?_
  rintro e w2 ⟨rfl, hb⟩
  go_wp2_with fail
  go_ret
  exact ⟨rfl, HB.out.trans (hb.mono HB.out.size)⟩

set_option maxRecDepth 20000 in
theorem holdsUn_any (n : Int) (th tg K : Bool) (T : ByteArray) (dt : Bool) (md : Int) (w : World) :
    Calls Tryz.prog 205 #[.int .i64 n, stV th tg K T dt md] w fun e w' => e = .returned (.bool (!dt || decide (md ≤ n))) ∧ Below w.heap.size w w' := by
  cases dt
  all_goals
    go_enter Tryz.func205, Tryz.ntmps205
    go_wp2
    go_ret
    exact ⟨rfl, by first | exact (Below.refl _ _).alloc (Nat.le_refl _) _ | exact two_boxes⟩

set_option maxRecDepth 20000 in
theorem holdsMod_any (n : Int) (th tg K : Bool) (T : ByteArray) (dt : Bool) (md : Int) (w : World) :
    Calls Tryz.prog 207 #[.int .i64 n, stV th tg K T dt md] w fun e w' => e = .returned (.bool (!dt || decide (n < md))) ∧ Below w.heap.size w w' := by
  cases dt
  all_goals
    go_enter Tryz.func207, Tryz.ntmps207
    go_wp2
    go_ret
    exact ⟨rfl, by first | exact (Below.refl _ _).alloc (Nat.le_refl _) _ | exact two_boxes⟩

theorem heads (m : ByteArray) : ((m.toList == [71, 69, 84]) = true ∧ looksB m = true) ∨ ((m.toList == [71, 69, 84]) = false ∧ (m.toList == [72, 69, 65, 68]) = true ∧ looksB m = true) ∨ ((m.toList == [71, 69, 84]) = false ∧ (m.toList == [72, 69, 65, 68]) = false ∧ looksB m = false) := by
  unfold looksB
  cases (m.toList == [71, 69, 84]) <;> cases (m.toList == [72, 69, 65, 68]) <;> simp
theorem as_ifMatch_ifModified (v : Value) (w : World) : (Instr.typeAssert (.iface 102 v) 66 105 true).run Tryz.prog w = .ok (.tuple #[.int .i64 0, .bool false]) w := by kernel_rfl
theorem as_ifMatch_ifNoneMatch (v : Value) (w : World) : (Instr.typeAssert (.iface 102 v) 66 104 true).run Tryz.prog w = .ok (.tuple #[.agg #[.slice none 0 0, .bool false], .bool false]) w := by kernel_rfl
theorem as_ifNoneMatch_ifModified (v : Value) (w : World) : (Instr.typeAssert (.iface 104 v) 66 105 true).run Tryz.prog w = .ok (.tuple #[.int .i64 0, .bool false]) w := by kernel_rfl
theorem as_ifNoneMatch_ifNoneMatch (v : Value) (w : World) : (Instr.typeAssert (.iface 104 v) 66 104 true).run Tryz.prog w = .ok (.tuple #[v, .bool true]) w := by kernel_rfl
theorem as_ifUnmodified_ifModified (v : Value) (w : World) : (Instr.typeAssert (.iface 103 v) 66 105 true).run Tryz.prog w = .ok (.tuple #[.int .i64 0, .bool false]) w := by kernel_rfl
theorem as_ifUnmodified_ifNoneMatch (v : Value) (w : World) : (Instr.typeAssert (.iface 103 v) 66 104 true).run Tryz.prog w = .ok (.tuple #[.agg #[.slice none 0 0, .bool false], .bool false]) w := by kernel_rfl
theorem as_ifModified_ifModified (v : Value) (w : World) : (Instr.typeAssert (.iface 105 v) 66 105 true).run Tryz.prog w = .ok (.tuple #[v, .bool true]) w := by kernel_rfl
theorem as_ifModified_ifNoneMatch (v : Value) (w : World) : (Instr.typeAssert (.iface 105 v) 66 104 true).run Tryz.prog w = .ok (.tuple #[.agg #[.slice none 0 0, .bool false], .bool false]) w := by kernel_rfl
theorem methMatch (v : Value) (w : World) : (Go.method 310 102 v "loop.example/g00256/impl.holds").run Tryz.prog w = .ok (203, v) w := by kernel_rfl
theorem methNone (v : Value) (w : World) : (Go.method 310 104 v "loop.example/g00256/impl.holds").run Tryz.prog w = .ok (206, v) w := by kernel_rfl
theorem methUn (v : Value) (w : World) : (Go.method 310 103 v "loop.example/g00256/impl.holds").run Tryz.prog w = .ok (205, v) w := by kernel_rfl
theorem methMod (v : Value) (w : World) : (Go.method 310 105 v "loop.example/g00256/impl.holds").run Tryz.prog w = .ok (207, v) w := by kernel_rfl

set_option maxRecDepth 20000 in
set_option maxHeartbeats 1600000 in
theorem outMatch_any (m : ByteArray) (a : Option Addr) (ca : Nat) (l : List (Bool × ByteArray)) (any : Bool) (th tg K : Bool) (T : ByteArray) (dt : Bool) (md : Int) (w : World) (lo hi : Nat) (hT : tagB T = true) (hg : ∀ c ∈ l, tagB c.2 = true) (hl : l.length ≤ 1000) (ha : GV w a l lo hi) :
    Calls Tryz.prog 25 #[.iface 102 (.agg #[.slice a l.length ca, .bool any]), stV th tg K T dt md, .string m] w fun e w' => e = .returned (.int .i64 (if matchB l any th tg K T true then 0 else 412)) ∧ Below w.heap.size w w' := by
  have HA : Hid (∀ wx, Below w.heap.size w wx → _) := fun wx hb => holdsMatch_any a ca l any th tg K T dt md wx lo hi hT hg hl (ha.below hb)
  have HM := methMatch
  have HA1 := as_ifMatch_ifModified
  have HA2 := as_ifMatch_ifNoneMatch
  have HB : Hid (Below w.heap.size w (w.alloc (.cells #[.bool th, .bool tg, .bool K, .string T, .bool dt, .int .i64 md] 27))) := (Below.refl _ _).alloc (Nat.le_refl _) _
  generalize matchB l any th tg K T true = M at HA ⊢
  cases M
  · rcases heads m with ⟨h1, _⟩ | ⟨h1, h2, _⟩ | ⟨h1, h2, _⟩
    all_goals
      go_enter Tryz.func25, Tryz.ntmps25
      go_wp2_with fail
      refine Calls.mono (HA.out _ HB.out) ?_
      rintro e w2 ⟨rfl, hb⟩
      have HB2 : Hid (Below w.heap.size w w2) := HB.out.trans (hb.mono HB.out.size)
      clear hb HB HA
      go_wp2_with fail
      go_ret
      exact ⟨rfl, HB2.out⟩
  · go_enter Tryz.func25, Tryz.ntmps25
    go_wp2_with fail
    refine Calls.mono (HA.out _ HB.out) ?_
    rintro e w2 ⟨rfl, hb⟩
    have HB2 : Hid (Below w.heap.size w w2) := HB.out.trans (hb.mono HB.out.size)
    clear hb HB HA
    go_wp2_with fail
    go_ret
    exact ⟨rfl, HB2.out⟩

set_option maxRecDepth 20000 in
set_option maxHeartbeats 1600000 in
theorem outNone_any (m : ByteArray) (a : Option Addr) (ca : Nat) (l : List (Bool × ByteArray)) (any : Bool) (th tg K : Bool) (T : ByteArray) (dt : Bool) (md : Int) (w : World) (lo hi : Nat) (hT : tagB T = true) (hg : ∀ c ∈ l, tagB c.2 = true) (hl : l.length ≤ 1000) (ha : GV w a l lo hi) :
    Calls Tryz.prog 25 #[.iface 104 (.agg #[.slice a l.length ca, .bool any]), stV th tg K T dt md, .string m] w fun e w' => e = .returned (.int .i64 (if matchB l any th tg K T false then (if looksB m then 304 else 412) else 0)) ∧ Below w.heap.size w w' := by
  have HA : Hid (∀ wx, Below w.heap.size w wx → _) := fun wx hb => holdsNone_any a ca l any th tg K T dt md wx lo hi hT hg hl (ha.below hb)
  have HM := methNone
  have HA1 := as_ifNoneMatch_ifModified
  have HA2 := as_ifNoneMatch_ifNoneMatch
  have HB : Hid (Below w.heap.size w (w.alloc (.cells #[.bool th, .bool tg, .bool K, .string T, .bool dt, .int .i64 md] 27))) := (Below.refl _ _).alloc (Nat.le_refl _) _
  generalize matchB l any th tg K T false = M at HA ⊢
  cases M
  · go_enter Tryz.func25, Tryz.ntmps25
    go_wp2_with fail
    refine Calls.mono (HA.out _ HB.out) ?_
    rintro e w2 ⟨rfl, hb⟩
    have HB2 : Hid (Below w.heap.size w w2) := HB.out.trans (hb.mono HB.out.size)
    clear hb HB HA
    go_wp2_with fail
    go_ret
    exact ⟨rfl, HB2.out⟩
  · rcases heads m with ⟨h1, hk⟩ | ⟨h1, h2, hk⟩ | ⟨h1, h2, hk⟩
    all_goals
      rw [hk]
      go_enter Tryz.func25, Tryz.ntmps25
      go_wp2_with fail
      refine Calls.mono (HA.out _ HB.out) ?_
      rintro e w2 ⟨rfl, hb⟩
      have HB2 : Hid (Below w.heap.size w w2) := HB.out.trans (hb.mono HB.out.size)
      clear hb HB HA
      go_wp2_with fail
      go_ret
      exact ⟨rfl, HB2.out⟩

set_option maxRecDepth 20000 in
set_option maxHeartbeats 1600000 in
theorem outUn_any (m : ByteArray) (n : Int) (th tg K : Bool) (T : ByteArray) (dt : Bool) (md : Int) (w : World) :
    Calls Tryz.prog 25 #[.iface 103 (.int .i64 n), stV th tg K T dt md, .string m] w fun e w' => e = .returned (.int .i64 (if dt && decide (n < md) then 412 else 0)) ∧ Below w.heap.size w w' := by
  have HA : Hid (∀ wx, Below w.heap.size w wx → _) := fun wx _ => holdsUn_any n th tg K T dt md wx
  have HM := methUn
  have HA1 := as_ifUnmodified_ifModified
  have HA2 := as_ifUnmodified_ifNoneMatch
  have HB : Hid (Below w.heap.size w (w.alloc (.cells #[.bool th, .bool tg, .bool K, .string T, .bool dt, .int .i64 md] 27))) := (Below.refl _ _).alloc (Nat.le_refl _) _
  have hq : (dt && decide (n < md)) = !(!dt || decide (md ≤ n)) := by
    cases dt
    · rfl
    · by_cases h : md ≤ n
      · rw [decide_eq_true h, decide_eq_false (by omega)]; rfl
      · rw [decide_eq_false h, decide_eq_true (by omega)]; rfl
  rw [hq]
  clear hq
  generalize (!dt || decide (md ≤ n)) = M at HA ⊢
  cases M
  · rcases heads m with ⟨h1, _⟩ | ⟨h1, h2, _⟩ | ⟨h1, h2, _⟩
    all_goals
      go_enter Tryz.func25, Tryz.ntmps25
      go_wp2_with fail
      refine Calls.mono (HA.out _ HB.out) ?_
      rintro e w2 ⟨rfl, hb⟩
      have HB2 : Hid (Below w.heap.size w w2) := HB.out.trans (hb.mono HB.out.size)
      clear hb HB HA
      go_wp2_with fail
      go_ret
      exact ⟨rfl, HB2.out⟩
  · go_enter Tryz.func25, Tryz.ntmps25
    go_wp2_with fail
    refine Calls.mono (HA.out _ HB.out) ?_
    rintro e w2 ⟨rfl, hb⟩
    have HB2 : Hid (Below w.heap.size w w2) := HB.out.trans (hb.mono HB.out.size)
    clear hb HB HA
    go_wp2_with fail
    go_ret
    exact ⟨rfl, HB2.out⟩

set_option maxRecDepth 20000 in
set_option maxHeartbeats 1600000 in
theorem outMod_any (m : ByteArray) (n : Int) (th tg K : Bool) (T : ByteArray) (dt : Bool) (md : Int) (w : World) :
    Calls Tryz.prog 25 #[.iface 105 (.int .i64 n), stV th tg K T dt md, .string m] w fun e w' => e = .returned (.int .i64 (if looksB m && (dt && decide (md ≤ n)) then 304 else 0)) ∧ Below w.heap.size w w' := by
  have HA : Hid (∀ wx, Below w.heap.size w wx → _) := fun wx _ => holdsMod_any n th tg K T dt md wx
  have HM := methMod
  have HA1 := as_ifModified_ifModified
  have HA2 := as_ifModified_ifNoneMatch
  have HB : Hid (Below w.heap.size w (w.alloc (.cells #[.bool th, .bool tg, .bool K, .string T, .bool dt, .int .i64 md] 27))) := (Below.refl _ _).alloc (Nat.le_refl _) _
  have hq : (dt && decide (md ≤ n)) = !(!dt || decide (n < md)) := by
    cases dt
    · rfl
    · by_cases h : md ≤ n
      · rw [decide_eq_true h, decide_eq_false (by omega)]; rfl
      · rw [decide_eq_false h, decide_eq_true (by omega)]; rfl
  rw [hq]
  clear hq
  generalize (!dt || decide (n < md)) = M at HA ⊢
  cases M
  · rcases heads m with ⟨h1, hk⟩ | ⟨h1, h2, hk⟩ | ⟨h1, h2, hk⟩
    all_goals
      rw [hk]
      go_enter Tryz.func25, Tryz.ntmps25
      go_wp2_with fail
      refine Calls.mono (HA.out _ HB.out) ?_
      rintro e w2 ⟨rfl, hb⟩
      have HB2 : Hid (Below w.heap.size w w2) := HB.out.trans (hb.mono HB.out.size)
      clear hb HB HA
      go_wp2_with fail
      go_ret
      exact ⟨rfl, HB2.out⟩
  · rw [show (looksB m && !true) = false from by cases looksB m <;> rfl]
    go_enter Tryz.func25, Tryz.ntmps25
    go_wp2_with fail
    refine Calls.mono (HA.out _ HB.out) ?_
    rintro e w2 ⟨rfl, hb⟩
    have HB2 : Hid (Below w.heap.size w w2) := HB.out.trans (hb.mono HB.out.size)
    clear hb HB HA
    go_wp2_with fail
    go_ret
    exact ⟨rfl, HB2.out⟩

end Go.Proofs.YtgidmoncocbfiaaGreatDoor.Cds


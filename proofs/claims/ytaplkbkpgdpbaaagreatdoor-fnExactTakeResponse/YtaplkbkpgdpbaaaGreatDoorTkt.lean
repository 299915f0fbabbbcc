/-
  What is taken of a text: its parts, plain; walk: impl.bodyTold.
-/
import Derived.Test.YtaplkbkpgdpbaaaGreatDoorTkf
import Derived.Test.YtaplkbkpgdpbaaaGreatDoorAsg
namespace Go.Proofs.YtaplkbkpgdpbaaaGreatDoor.Tkr
open Go.RowKit Go.Lib
open Go.Proofs.YtaplkbkpgdpbaaaGreatDoor
open Go.Proofs.YtaplkbkpgdpbaaaGreatDoor.Fbs
open Go.Proofs.YtaplkbkpgdpbaaaGreatDoor.Fch
open Go.Proofs.YtaplkbkpgdpbaaaGreatDoor.Ows
open Go.Proofs.YtaplkbkpgdpbaaaGreatDoor.Fdb
open Go.Proofs.YtaplkbkpgdpbaaaGreatDoor.Fvs
open Go.Proofs.YtaplkbkpgdpbaaaGreatDoor.Lnp
open Go.Proofs.YtaplkbkpgdpbaaaGreatDoor.Hdl (mkB cutO cdS)
open Go.Proofs.YtaplkbkpgdpbaaaGreatDoor.Rqb (errV rqC)
open Go.Proofs.YtaplkbkpgdpbaaaGreatDoor.Tri (trimS)

theorem lnO_ge (l : List (ByteArray × ByteArray)) : 0 ≤ (lnO l).1 := by
  unfold lnO
  split
  · split
    · exact Int.le_refl _
    · split
      · exact Int.le_refl _
      · rename_i h; show 0 ≤ lnV l; omega
  · exact Int.le_refl _
/-- The body that fields tell, as far as it is there. -/
def bodyO (r : ByteArray) (l : List (ByteArray × ByteArray)) : ByteArray := r.extract 0 (min (lnO l).1.toNat r.size)

set_option maxHeartbeats 800000 in
theorem bodyTold_any (r : ByteArray) (a : Option Addr) (ca : Nat) (l : List (ByteArray × ByteArray)) (b : Addr) (w : World) (lo hi : Nat) (_hr : r.size ≤ 2000000) (hT : Tab w) (hE : w.cell? ⟨0, 0, none⟩ = some (sent b)) (hz : SzF l) (hca : l.length ≤ ca) (ha : FV w a l lo hi) :
    Calls Tryz.prog 87 #[.string r, .slice a l.length ca] w fun e w' => e = .returned (.string (bodyO r l)) ∧ Below w.heap.size w w' := by
  have HL := implLen_any a ca l b w lo hi hT hE hz hca ha
  have hge := lnO_ge l
  have HB : Hid (bodyO r l = r.extract 0 (min (lnO l).1.toNat r.size)) := rfl
  generalize bodyO r l = R at HB ⊢
  generalize lnO l = p at HL hge HB
  obtain ⟨n, ok⟩ := p
  obtain ⟨n, rfl⟩ := Int.eq_ofNat_of_zero_le hge
  have HL1 : Hid _ := HL
  clear HL hge hz hE hT ha
  by_cases h : n ≤ r.size
  · have hmin : min (n : Int) (r.size : Int) = (n : Int) := by omega
    have HR : Hid (R = r.extract 0 n) := by show _ = _; rw [HB.out]; show r.extract 0 (min (Int.toNat (n : Int)) r.size) = _; rw [Int.toNat_natCast, Nat.min_eq_left h]
    clear HB
    go_enter Tryz.func87, Tryz.ntmps87
    go_wp2_with fail
    refine (Calls.mono HL1.out ?_)
    rintro e w2 ⟨rfl, hb2⟩
    go_wp2_with fail
    go_ret
    exact ⟨ret_str HR.out.symm, hb2⟩
  · have hmin : min (n : Int) (r.size : Int) = (r.size : Int) := by omega
    have HR : Hid (R = r) := by
      show _ = _; rw [HB.out]; show r.extract 0 (min (Int.toNat (n : Int)) r.size) = _
      rw [Int.toNat_natCast, Nat.min_eq_right (by omega), Hdl.mkB_extract, List.drop_zero, Nat.sub_zero, ← len_list r, List.take_length, Hdl.mkB_list]
    clear HB
    go_enter Tryz.func87, Tryz.ntmps87
    go_wp2_with fail
    refine (Calls.mono HL1.out ?_)
    rintro e w2 ⟨rfl, hb2⟩
    go_wp2_with fail
    go_ret
    exact ⟨ret_str HR.out.symm, hb2⟩

/-- The parts of what is taken. -/
def tkM (ls : List ByteArray) : ByteArray × ByteArray := toldM (ls.headD ⟨#[]⟩)
def tkF (ls : List ByteArray) : List (ByteArray × ByteArray) := ls.tail.map fldO
def tkB (s : ByteArray) (ls : List ByteArray) (at_ : Nat) : ByteArray := bodyO (s.extract at_ s.size) (tkF ls)
def tkC (s : ByteArray) (ls : List ByteArray) (at_ : Nat) : Int := rqC (tkM ls).1 (tkM ls).2 (tkF ls) (tkB s ls at_)

theorem splitK_le (sep : List UInt8) : ∀ (k : Nat) (s : List UInt8), ∀ x ∈ splitK sep 0 k s, x.length ≤ s.length
  | 0, s, x, hx => by
    have : x = s := by simpa [splitK] using hx
    subst this; exact Nat.le_refl _
  | k + 1, s, x, hx => by
    unfold splitK at hx
    split at hx
    · have : x = s := by simpa using hx
      subst this; exact Nat.le_refl _
    · rcases List.mem_cons.1 hx with rfl | hx
      · rw [List.length_take]; omega
      · have := splitK_le sep k _ x hx
        rw [List.length_drop] at this; omega
theorem splitK_len (sep : List UInt8) (save : Nat) : ∀ (k : Nat) (s : List UInt8), (splitK sep save k s).length ≤ k + 1 ∧ splitK sep save k s ≠ []
  | 0, s => ⟨Nat.le_refl _, by simp [splitK]⟩
  | k + 1, s => by
    unfold splitK
    split
    · exact ⟨by simp, by simp⟩
    · have := (splitK_len sep save k (s.drop ((index s sep).toNat + sep.length))).1
      exact ⟨by simp only [List.length_cons]; omega, by simp⟩
/-- The lines of a head. -/
theorem cut_lines {s : ByteArray} {ls : List ByteArray} {n : Nat} (h : cutO s = some (ls, n)) : ls ≠ [] ∧ ls.length ≤ 2002 ∧ (∀ x ∈ ls, x.size ≤ s.size) ∧ n ≤ 2000 ∧ n ≤ s.size := by
  unfold cutO at h
  split at h
  · cases h
  · rename_i hc
    have h := Option.some.inj h
    have h1 : ls = (split (s.data.toList.take (index s.data.toList Hdl.CC).toNat) Hdl.C).map mkB := (congrArg Prod.fst h).symm
    have h2 : n = (index s.data.toList Hdl.CC).toNat + 4 := (congrArg Prod.snd h).symm
    have hge := index_ge s.data.toList Hdl.CC
    obtain ⟨p, hp⟩ : ∃ p : Nat, index s.data.toList Hdl.CC = p := ⟨(index s.data.toList Hdl.CC).toNat, by omega⟩
    have hr := Hdl.idx_room hp
    have hl := len_list s
    rw [hp, Int.toNat_natCast] at h1 h2
    rw [hp] at hc
    have hcl := count_le (s.data.toList.take p) Hdl.C
    have htl : (s.data.toList.take p).length = p := by rw [List.length_take]; omega
    have hk := splitK_len Hdl.C 0 (count (s.data.toList.take p) Hdl.C) (s.data.toList.take p)
    refine ⟨?_, ?_, ?_, by omega, by omega⟩
    · rw [h1]; intro e; exact hk.2 (List.map_eq_nil_iff.1 e)
    · rw [h1, List.length_map]
      have : (split (s.data.toList.take p) Hdl.C).length ≤ count (s.data.toList.take p) Hdl.C + 1 := hk.1
      omega
    · intro x hx
      rw [h1] at hx
      obtain ⟨y, hy, rfl⟩ := List.mem_map.1 hx
      have := splitK_le Hdl.C _ _ y hy
      show y.toArray.size ≤ _
      simp only [List.size_toArray]
      omega
theorem cutA_size (x : ByteArray) (c : UInt8) : (Ctf.cutA x c).size ≤ x.size := by
  cases h : Ctf.cutI x c with
  | some k => rw [(Ctf.cut_some h).1, ByteArray.size_extract]; omega
  | none => rw [(Ctf.cut_none h).1]; exact Nat.le_refl _
theorem fld_size (x : ByteArray) : (fldO x).1.size ≤ x.size ∧ (fldO x).2.size ≤ x.size := by
  unfold fldO
  refine ⟨?_, Nat.le_trans (Tri.trimS_size _) (cutZ_size x 58)⟩
  dsimp only
  split
  · exact cutA_size x 58
  · exact Nat.zero_le _
theorem told_size (x : ByteArray) : (toldM x).1.size ≤ x.size ∧ (toldM x).2.size ≤ x.size := by
  unfold toldM
  cases h : lineO x with
  | none => exact ⟨Nat.zero_le _, Nat.zero_le _⟩
  | some p =>
    unfold lineO at h
    split at h
    · obtain rfl := Option.some.inj h
      exact ⟨cutA_size x 32, Nat.le_trans (cutA_size _ 32) (cutZ_size x 32)⟩
    · cases h

/-- What a take leaves, the fault as 'v' tells it. -/
def ToldR (w : World) (B : Nat) (e : Ending) (v : Int → Value) (s : ByteArray) : Prop :=
  match cutO s with
  | none => e = .returned (.tuple #[.agg #[.string ⟨#[]⟩, .string ⟨#[]⟩, .slice none 0 0, .string ⟨#[]⟩], .int .i64 0, v (cdS s)])
  | some (ls, n) => if tkC s ls n = 0 then ∃ x, e = .returned (.tuple #[.agg #[.string (tkM ls).1, .string (tkM ls).2, x, .string (tkB s ls n)], .int .i64 ((n : Int) + (tkB s ls n).size), v 0]) ∧ fieldsIn w B x (tkF ls)
    else e = .returned (.tuple #[.agg #[.string ⟨#[]⟩, .string ⟨#[]⟩, .slice none 0 0, .string ⟨#[]⟩], .int .i64 0, v (tkC s ls n)])
theorem toldR_none {w : World} {B : Nat} {e : Ending} {v : Int → Value} {s : ByteArray} (h : cutO s = none) (he : e = .returned (.tuple #[.agg #[.string ⟨#[]⟩, .string ⟨#[]⟩, .slice none 0 0, .string ⟨#[]⟩], .int .i64 0, v (cdS s)])) : ToldR w B e v s := by
  unfold ToldR; rw [h]; exact he
theorem toldR_bad {w : World} {B : Nat} {e : Ending} {v : Int → Value} {s : ByteArray} {ls : List ByteArray} {n : Nat} (h : cutO s = some (ls, n)) (hc : tkC s ls n ≠ 0) (he : e = .returned (.tuple #[.agg #[.string ⟨#[]⟩, .string ⟨#[]⟩, .slice none 0 0, .string ⟨#[]⟩], .int .i64 0, v (tkC s ls n)])) : ToldR w B e v s := by
  unfold ToldR; rw [h]; show if _ then _ else _; rw [if_neg hc]; exact he
theorem toldR_good {w : World} {B : Nat} {e : Ending} {v : Int → Value} {s : ByteArray} {ls : List ByteArray} {n : Nat} (h : cutO s = some (ls, n)) (hc : tkC s ls n = 0) (x : Value) (he : e = .returned (.tuple #[.agg #[.string (tkM ls).1, .string (tkM ls).2, x, .string (tkB s ls n)], .int .i64 ((n : Int) + (tkB s ls n).size), v 0])) (hf : fieldsIn w B x (tkF ls)) : ToldR w B e v s := by
  unfold ToldR; rw [h]; show if _ then _ else _; rw [if_pos hc]; exact ⟨x, he, hf⟩

end Go.Proofs.YtaplkbkpgdpbaaaGreatDoor.Tkr

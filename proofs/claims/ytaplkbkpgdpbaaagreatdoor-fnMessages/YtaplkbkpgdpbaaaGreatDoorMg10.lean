/-
  errors.As at a fault of a message: it is taken; walk: impl.codeOf.
  What is taken of a text: its parts, plain; walk: impl.bodyTold.
  A request comes back from its bytes, and of a cut one nothing is taken.
  Walks: what draws read: spec's (*l1Cur).next, pick, one.
  Walks: dates that are drawn: spec's among, date.
  Bytes that are drawn from, among a law's arguments; picks with a number told; lists that are chosen from; walk: spec's (*l1Cur).of.
  Walks: draws: (*l1Cur).bytes.
-/
import Derived.Test.YtaplkbkpgdpbaaaGreatDoorMg9
import Derived.Test.YtaplkbkpgdpbaaaGreatDoorProg
import Derived.WalkKit
import Derived.WalkLawsBesides
import Derived.Below
import Derived.Laws.Bits64b
import Derived.Deep.QuietTactic
import Derived.BigQuiet
import Derived.ProofKit
import Derived.SizedLaws
import Derived.Test.YtaplkbkpgdpbaaaGreatDoorMg1
import Derived.Deep.OwnRows
namespace Go.Proofs.YtaplkbkpgdpbaaaGreatDoor.Asf
open Go.RowKit Go.Extern.Stop Go.Stop Go.Extern
open Go.Proofs.YtaplkbkpgdpbaaaGreatDoor.Lnp (fault)
open Go.Proofs.YtaplkbkpgdpbaaaGreatDoor.Rqb (errV err_none err_some)

/-- What errors.As asks a target's type for: error's own type. -/
def ErrT (w : World) : Prop := w.cell? ⟨1, 0, none⟩ = some (.iface 158 (.agg #[.pointer (some ⟨9, 63, none⟩)]))
theorem ErrT.lt {w : World} (h : ErrT w) : 1 < w.heap.size := World.block_lt_of_cell? _ _ h
theorem ErrT.below {B : Nat} {w w' : World} (h : ErrT w) (hb : Below B w w') (hB : 1 < B) : ErrT w' := (hb.cell (p := ⟨1, 0, none⟩) hB).trans h

set_option maxRecDepth 20000 in
set_option maxHeartbeats 4000000 in
theorem as_hit (c : Int) (t : Nat) (old : Value) (w : World) (hg : ErrT w) (ht0 : w.cell? ⟨t, 0, none⟩ = some old) (hf0 : w.frozen? ⟨t, 0, none⟩ = false) :
    Calls Tryz.prog 88 #[.iface 104 (.agg #[.int .i64 c]), .iface 112 (.pointer (some ⟨t, 0, none⟩))] w fun ev w' => ev = .returned (.bool true) ∧ w'.cell? ⟨t, 0, none⟩ = some (.int .i64 c) ∧ ∀ B, B ≤ t → B ≤ w.heap.size → Below B w w' := by
  have hV := @run_callFunc_extern Tryz.prog 127 _ (fun args => ReflectliteValue.unpack (args.getD 0 (.tuple #[]))) Tryz.func127 (by kernel_rfl) (by kernel_rfl) (by kernel_rfl) (by kernel_rfl)
  have hTy := @run_callFunc_extern Tryz.prog 128 _ (ReflectliteValue.methodAny (ReflectliteValue.valueError "reflectlite.Value.Type" 0) (fun t _ _ _ => ReflectliteType.toType t)) Tryz.func128 (by kernel_rfl) (by kernel_rfl) (by kernel_rfl) (by kernel_rfl)
  have hNil := @run_callFunc_extern Tryz.prog 129 _ (ReflectliteValue.method (ReflectliteValue.valueError "reflectlite.Value.IsNil" 0) ReflectliteValue.isNil) Tryz.func129 (by kernel_rfl) (by kernel_rfl) (by kernel_rfl) (by kernel_rfl)
  have hKi := @run_callFunc_extern Tryz.prog 212 _ (ReflectliteType.abiMethod fun t => do pure (.int .u8 (← Rtype.kind t))) Tryz.func212 (by kernel_rfl) (by kernel_rfl) (by kernel_rfl) (by kernel_rfl)
  have hEl := @run_callFunc_extern Tryz.prog 223 _ (ReflectliteType.method ReflectliteType.elem) Tryz.func223 (by kernel_rfl) (by kernel_rfl) (by kernel_rfl) (by kernel_rfl)
  have hIm := @run_callFunc_extern Tryz.prog 224 _ (ReflectliteType.relation "Implements" ReflectliteType.implements_) Tryz.func224 (by kernel_rfl) (by kernel_rfl) (by kernel_rfl) (by kernel_rfl)
  have hTO := @run_callFunc_extern Tryz.prog 91 _ ReflectliteType.typeOf Tryz.func91 (by kernel_rfl) (by kernel_rfl) (by kernel_rfl) (by kernel_rfl)
  have hAs := @run_callFunc_extern Tryz.prog 221 _ (ReflectliteType.relation "AssignableTo" ReflectliteType.assignableTo) Tryz.func221 (by kernel_rfl) (by kernel_rfl) (by kernel_rfl) (by kernel_rfl)
  have hVE := @run_callFunc_extern Tryz.prog 156 _ (ReflectliteValue.method (ReflectliteValue.valueError "reflectlite.Value.Elem" 0) ReflectliteValue.elem) Tryz.func156 (by kernel_rfl) (by kernel_rfl) (by kernel_rfl) (by kernel_rfl)
  have hSe := @run_callFunc_extern Tryz.prog 157 _ ReflectliteValue.set Tryz.func157 (by kernel_rfl) (by kernel_rfl) (by kernel_rfl) (by kernel_rfl)
  have tO := typeOfS
  have mA := methodAssignableTo
  have aS := assignableS
  have vS := valueOfS
  have vP := valueOfP
  have tP := typeP
  have mK := methodKind
  have mE := methodElem
  have mI := methodImplements
  have kP := kindP
  have kS := kindS
  have eP := elemP
  have iS := implementsS
  unfold val hd at *
  obtain ⟨w1, hw1⟩ : ∃ w1, w1 = w.alloc (.cells #[.pointer (some ⟨t, 0, none⟩)] 112) := ⟨_, rfl⟩
  have hs1 : w1.heap.size = w.heap.size + 1 := by rw [hw1]; simp
  have hb1 : Below w.heap.size w w1 := by rw [hw1]; exact (Below.refl _ _).alloc (Nat.le_refl _) _
  have c1 : w1.cell? ⟨w.heap.size, 0, none⟩ = some (.pointer (some ⟨t, 0, none⟩)) := by rw [hw1, World.cell?_alloc_mark]; rfl
  obtain ⟨w2, hw2⟩ : ∃ w2, w2 = w1.alloc (.cells #[.pointer (some ⟨9, 112, none⟩), .pointer (some ⟨w.heap.size, 0, none⟩), .int .u64 150] 150) := ⟨_, rfl⟩
  have hs2 : w2.heap.size = w.heap.size + 1 + 1 := by rw [hw2, World.size_alloc, hs1]
  have hb2 : Below w1.heap.size w1 w2 := by rw [hw2]; exact (Below.refl _ _).alloc (Nat.le_refl _) _
  have c2 : w2.cell? ⟨w.heap.size, 0, none⟩ = some (.pointer (some ⟨t, 0, none⟩)) := (hb2.cell (p := ⟨w.heap.size, 0, none⟩) (by rw [hs1]; exact Nat.lt_succ_self _)).trans c1
  have n8 := isNilP ⟨w.heap.size, 0, none⟩ ⟨t, 0, none⟩ w2 c2
  have hg2 : w2.cell? ⟨1, 0, none⟩ = some (.iface 158 (.agg #[.pointer (some ⟨9, 63, none⟩)])) := (hg.below hb1 hg.lt).below hb2 (by have := hg.lt; omega)
  obtain ⟨w3, hw3⟩ : ∃ w3, w3 = w2.alloc (.cells #[.pointer (some ⟨9, 112, none⟩), .pointer (some ⟨w.heap.size, 0, none⟩), .int .u64 150] 150) := ⟨_, rfl⟩
  have hs3 : w3.heap.size = w.heap.size + 1 + 1 + 1 := by rw [hw3, World.size_alloc, hs2]
  have hb3 : Below w2.heap.size w2 w3 := by rw [hw3]; exact (Below.refl _ _).alloc (Nat.le_refl _) _
  have c3 : w3.cell? ⟨w.heap.size, 0, none⟩ = some (.pointer (some ⟨t, 0, none⟩)) := (hb3.cell (p := ⟨w.heap.size, 0, none⟩) (by show w.heap.size < _; omega)).trans c2
  have el := elemV ⟨w.heap.size, 0, none⟩ ⟨t, 0, none⟩ w3 c3
  obtain ⟨w4, hw4⟩ : ∃ w4, w4 = w3.alloc (.cells #[.int .i64 c] 104) := ⟨_, rfl⟩
  have hs4 : w4.heap.size = w.heap.size + 1 + 1 + 1 + 1 := by rw [hw4, World.size_alloc, hs3]
  have hb4 : Below w3.heap.size w3 w4 := by rw [hw4]; exact (Below.refl _ _).alloc (Nat.le_refl _) _
  have hB4 : Below w.heap.size w w4 := ((hb1.trans (hb2.mono (by omega))).trans (hb3.mono (by omega))).trans (hb4.mono (by omega))
  have c4 : w4.cell? ⟨w.heap.size + 1 + 1 + 1, 0, none⟩ = some (.int .i64 c) := by rw [← hs3, hw4, World.cell?_alloc_mark]; rfl
  have htl : t < w.heap.size := World.block_lt_of_cell? _ _ ht0
  have ht4 := (hB4.cell (p := ⟨t, 0, none⟩) htl).trans ht0
  have hf4 := (hB4.frozen (p := ⟨t, 0, none⟩) htl).trans hf0
  have st := setS t (w.heap.size + 1 + 1 + 1) c old w4 c4 ht4 hf4
  have HFin : Hid ((w4.setCell ⟨t, 0, none⟩ (.int .i64 c)).cell? ⟨t, 0, none⟩ = some (.int .i64 c) ∧ ∀ B, B ≤ t → B ≤ w.heap.size → Below B w (w4.setCell ⟨t, 0, none⟩ (.int .i64 c))) :=
    ⟨by simp [go_sem, ht4], fun B h1 h2 => (hB4.mono h2).setCell (p := ⟨t, 0, none⟩) h1 _⟩
  unfold val hd at el st n8
  rw [hw1] at hs1
  clear c1 c2 c3 c4 hb1 hb2 hb3 hb4 hs1 hs2 hs3 hs4 hB4 ht4 hf4
  subst hw4
  subst hw3
  subst hw2
  subst hw1
  go_enter Tryz.func88, Tryz.ntmps88
  go_wp2
  refine wp_loop_rounds 1 ?_
  rw [rounds_succ]
  go_wp2
  go_ret
  exact ⟨rfl, HFin.out⟩

/-- What codeOf makes of an error. -/
theorem codeOf_any (c : Int) (w : World) (hg : ErrT w) : Calls Tryz.prog 50 #[errV c] w fun e w' => e = .returned (.int .i64 c) ∧ Below w.heap.size w w' := by
  by_cases h0 : c = 0
  · subst h0
    rw [err_none]
    have HN : Hid _ := as_nil
    go_enter Tryz.func50, Tryz.ntmps50
    go_wp2_with fail
    refine (HN.out _ _).mono ?_
    rintro e w2 ⟨rfl, hw⟩
    obtain rfl := hw.symm
    go_wp2_with fail
    go_ret
    exact ⟨rfl, (Below.refl _ _).alloc (Nat.le_refl _) _⟩
  · rw [err_some h0]
    have hb1 : Below w.heap.size w (w.alloc (.cells #[.int .i64 0] 104)) := (Below.refl _ _).alloc (Nat.le_refl _) _
    have HA : Hid _ := as_hit c w.heap.size (.int .i64 0) (w.alloc (.cells #[.int .i64 0] 104)) (hg.below hb1 hg.lt) (by simp [go_sem]) (World.frozen?_alloc_at _ _ _ _ rfl)
    go_enter Tryz.func50, Tryz.ntmps50
    go_wp2_with fail
    refine (Calls.mono HA.out ?_)
    rintro e w2 ⟨rfl, hc, hB⟩
    have hb2 := hb1.trans (hB _ (Nat.le_refl _) (by simp))
    go_wp2_with fail
    go_ret
    exact ⟨rfl, hb2⟩

end Go.Proofs.YtaplkbkpgdpbaaaGreatDoor.Asf

namespace Go.Proofs.YtaplkbkpgdpbaaaGreatDoor.Tkr
open Go.RowKit Go.Lib
open Go.Proofs.YtaplkbkpgdpbaaaGreatDoor
open Go.Proofs.YtaplkbkpgdpbaaaGreatDoor.Fbs
open Go.Proofs.YtaplkbkpgdpbaaaGreatDoor.Fch
open Go.Proofs.YtaplkbkpgdpbaaaGreatDoor.Ows
open Go.Proofs.YtaplkbkpgdpbaaaGreatDoor.Fdb
open Go.Proofs.YtaplkbkpgdpbaaaGreatDoor.Fvs
open Go.Proofs.YtaplkbkpgdpbaaaGreatDoor.Lnp
open Go.Proofs.YtaplkbkpgdpbaaaGreatDoor.Hdl (mkB cutO cdS)
open Go.Proofs.YtaplkbkpgdpbaaaGreatDoor.Rqb (errV rqC)
open Go.Proofs.YtaplkbkpgdpbaaaGreatDoor.Tri (trimS)

theorem lnO_ge (l : List (ByteArray × ByteArray)) : 0 ≤ (lnO l).1 := by
  unfold lnO
  split
  · split
    · exact Int.le_refl _
    · split
      · exact Int.le_refl _
      · rename_i h; show 0 ≤ lnV l; omega
  · exact Int.le_refl _
/-- The body that fields tell, as far as it is there. -/
def bodyO (r : ByteArray) (l : List (ByteArray × ByteArray)) : ByteArray := r.extract 0 (min (lnO l).1.toNat r.size)

set_option maxHeartbeats 800000 in
theorem bodyTold_any (r : ByteArray) (a : Option Addr) (ca : Nat) (l : List (ByteArray × ByteArray)) (b : Addr) (w : World) (lo hi : Nat) (_hr : r.size ≤ 2000000) (hT : Tab w) (hE : w.cell? ⟨0, 0, none⟩ = some (sent b)) (hz : SzF l) (hca : l.length ≤ ca) (ha : FV w a l lo hi) :
    Calls Tryz.prog 87 #[.string r, .slice a l.length ca] w fun e w' => e = .returned (.string (bodyO r l)) ∧ Below w.heap.size w w' := by
  have HL := implLen_any a ca l b w lo hi hT hE hz hca ha
  have hge := lnO_ge l
  have HB : Hid (bodyO r l = r.extract 0 (min (lnO l).1.toNat r.size)) := rfl
  generalize bodyO r l = R at HB ⊢
  generalize lnO l = p at HL hge HB
  obtain ⟨n, ok⟩ := p
  obtain ⟨n, rfl⟩ := Int.eq_ofNat_of_zero_le hge
  have HL1 : Hid _ := HL
  clear HL hge hz hE hT ha
  by_cases h : n ≤ r.size
  · have hmin : min (n : Int) (r.size : Int) = (n : Int) := by omega
    have HR : Hid (R = r.extract 0 n) := by show _ = _; rw [HB.out]; show r.extract 0 (min (Int.toNat (n : Int)) r.size) = _; rw [Int.toNat_natCast, Nat.min_eq_left h]
    clear HB
    go_enter Tryz.func87, Tryz.ntmps87
    go_wp2_with fail
    refine (Calls.mono HL1.out ?_)
    rintro e w2 ⟨rfl, hb2⟩
    go_wp2_with fail
    go_ret
    exact ⟨ret_str HR.out.symm, hb2⟩
  · have hmin : min (n : Int) (r.size : Int) = (r.size : Int) := by omega
    have HR : Hid (R = r) := by
      show _ = _; rw [HB.out]; show r.extract 0 (min (Int.toNat (n : Int)) r.size) = _
      rw [Int.toNat_natCast, Nat.min_eq_right (by omega), Hdl.mkB_extract, List.drop_zero, Nat.sub_zero, ← len_list r, List.take_length, Hdl.mkB_list]
    clear HB
    go_enter Tryz.func87, Tryz.ntmps87
    go_wp2_with fail
    refine (Calls.mono HL1.out ?_)
    rintro e w2 ⟨rfl, hb2⟩
    go_wp2_with fail
    go_ret
    exact ⟨ret_str HR.out.symm, hb2⟩

/-- The parts of what is taken. -/
def tkM (ls : List ByteArray) : ByteArray × ByteArray := toldM (ls.headD ⟨#[]⟩)
def tkF (ls : List ByteArray) : List (ByteArray × ByteArray) := ls.tail.map fldO
def tkB (s : ByteArray) (ls : List ByteArray) (at_ : Nat) : ByteArray := bodyO (s.extract at_ s.size) (tkF ls)
def tkC (s : ByteArray) (ls : List ByteArray) (at_ : Nat) : Int := rqC (tkM ls).1 (tkM ls).2 (tkF ls) (tkB s ls at_)

theorem splitK_le (sep : List UInt8) : ∀ (k : Nat) (s : List UInt8), ∀ x ∈ splitK sep 0 k s, x.length ≤ s.length
  | 0, s, x, hx => by
    have : x = s := by simpa [splitK] using hx
    subst this; exact Nat.le_refl _
  | k + 1, s, x, hx => by
    unfold splitK at hx
    split at hx
    · have : x = s := by simpa using hx
      subst this; exact Nat.le_refl _
    · rcases List.mem_cons.1 hx with rfl | hx
      · rw [List.length_take]; omega
      · have := splitK_le sep k _ x hx
        rw [List.length_drop] at this; omega
theorem splitK_len (sep : List UInt8) (save : Nat) : ∀ (k : Nat) (s : List UInt8), (splitK sep save k s).length ≤ k + 1 ∧ splitK sep save k s ≠ []
  | 0, s => ⟨Nat.le_refl _, by simp [splitK]⟩
  | k + 1, s => by
    unfold splitK
    split
    · exact ⟨by simp, by simp⟩
    · have := (splitK_len sep save k (s.drop ((index s sep).toNat + sep.length))).1
      exact ⟨by simp only [List.length_cons]; omega, by simp⟩
/-- The lines of a head. -/
theorem cut_lines {s : ByteArray} {ls : List ByteArray} {n : Nat} (h : cutO s = some (ls, n)) : ls ≠ [] ∧ ls.length ≤ 2002 ∧ (∀ x ∈ ls, x.size ≤ s.size) ∧ n ≤ 2000 ∧ n ≤ s.size := by
  unfold cutO at h
  split at h
  · cases h
  · rename_i hc
    have h := Option.some.inj h
    have h1 : ls = (split (s.data.toList.take (index s.data.toList Hdl.CC).toNat) Hdl.C).map mkB := (congrArg Prod.fst h).symm
    have h2 : n = (index s.data.toList Hdl.CC).toNat + 4 := (congrArg Prod.snd h).symm
    have hge := index_ge s.data.toList Hdl.CC
    obtain ⟨p, hp⟩ : ∃ p : Nat, index s.data.toList Hdl.CC = p := ⟨(index s.data.toList Hdl.CC).toNat, by omega⟩
    have hr := Hdl.idx_room hp
    have hl := len_list s
    rw [hp, Int.toNat_natCast] at h1 h2
    rw [hp] at hc
    have hcl := count_le (s.data.toList.take p) Hdl.C
    have htl : (s.data.toList.take p).length = p := by rw [List.length_take]; omega
    have hk := splitK_len Hdl.C 0 (count (s.data.toList.take p) Hdl.C) (s.data.toList.take p)
    refine ⟨?_, ?_, ?_, by omega, by omega⟩
    · rw [h1]; intro e; exact hk.2 (List.map_eq_nil_iff.1 e)
    · rw [h1, List.length_map]
      have : (split (s.data.toList.take p) Hdl.C).length ≤ count (s.data.toList.take p) Hdl.C + 1 := hk.1
      omega
    · intro x hx
      rw [h1] at hx
      obtain ⟨y, hy, rfl⟩ := List.mem_map.1 hx
      have := splitK_le Hdl.C _ _ y hy
      show y.toArray.size ≤ _
      simp only [List.size_toArray]
      omega
theorem cutA_size (x : ByteArray) (c : UInt8) : (Ctf.cutA x c).size ≤ x.size := by
  cases h : Ctf.cutI x c with
  | some k => rw [(Ctf.cut_some h).1, ByteArray.size_extract]; omega
  | none => rw [(Ctf.cut_none h).1]; exact Nat.le_refl _
theorem fld_size (x : ByteArray) : (fldO x).1.size ≤ x.size ∧ (fldO x).2.size ≤ x.size := by
  unfold fldO
  refine ⟨?_, Nat.le_trans (Tri.trimS_size _) (cutZ_size x 58)⟩
  dsimp only
  split
  · exact cutA_size x 58
  · exact Nat.zero_le _
theorem told_size (x : ByteArray) : (toldM x).1.size ≤ x.size ∧ (toldM x).2.size ≤ x.size := by
  unfold toldM
  cases h : lineO x with
  | none => exact ⟨Nat.zero_le _, Nat.zero_le _⟩
  | some p =>
    unfold lineO at h
    split at h
    · obtain rfl := Option.some.inj h
      exact ⟨cutA_size x 32, Nat.le_trans (cutA_size _ 32) (cutZ_size x 32)⟩
    · cases h

/-- What a take leaves, the fault as 'v' tells it. -/
def ToldR (w : World) (B : Nat) (e : Ending) (v : Int → Value) (s : ByteArray) : Prop :=
  match cutO s with
  | none => e = .returned (.tuple #[.agg #[.string ⟨#[]⟩, .string ⟨#[]⟩, .slice none 0 0, .string ⟨#[]⟩], .int .i64 0, v (cdS s)])
  | some (ls, n) => if tkC s ls n = 0 then ∃ x, e = .returned (.tuple #[.agg #[.string (tkM ls).1, .string (tkM ls).2, x, .string (tkB s ls n)], .int .i64 ((n : Int) + (tkB s ls n).size), v 0]) ∧ fieldsIn w B x (tkF ls)
    else e = .returned (.tuple #[.agg #[.string ⟨#[]⟩, .string ⟨#[]⟩, .slice none 0 0, .string ⟨#[]⟩], .int .i64 0, v (tkC s ls n)])
theorem toldR_none {w : World} {B : Nat} {e : Ending} {v : Int → Value} {s : ByteArray} (h : cutO s = none) (he : e = .returned (.tuple #[.agg #[.string ⟨#[]⟩, .string ⟨#[]⟩, .slice none 0 0, .string ⟨#[]⟩], .int .i64 0, v (cdS s)])) : ToldR w B e v s := by
  unfold ToldR; rw [h]; exact he
theorem toldR_bad {w : World} {B : Nat} {e : Ending} {v : Int → Value} {s : ByteArray} {ls : List ByteArray} {n : Nat} (h : cutO s = some (ls, n)) (hc : tkC s ls n ≠ 0) (he : e = .returned (.tuple #[.agg #[.string ⟨#[]⟩, .string ⟨#[]⟩, .slice none 0 0, .string ⟨#[]⟩], .int .i64 0, v (tkC s ls n)])) : ToldR w B e v s := by
  unfold ToldR; rw [h]; show if _ then _ else _; rw [if_neg hc]; exact he
theorem toldR_good {w : World} {B : Nat} {e : Ending} {v : Int → Value} {s : ByteArray} {ls : List ByteArray} {n : Nat} (h : cutO s = some (ls, n)) (hc : tkC s ls n = 0) (x : Value) (he : e = .returned (.tuple #[.agg #[.string (tkM ls).1, .string (tkM ls).2, x, .string (tkB s ls n)], .int .i64 ((n : Int) + (tkB s ls n).size), v 0])) (hf : fieldsIn w B x (tkF ls)) : ToldR w B e v s := by
  unfold ToldR; rw [h]; show if _ then _ else _; rw [if_pos hc]; exact ⟨x, he, hf⟩

end Go.Proofs.YtaplkbkpgdpbaaaGreatDoor.Tkr

namespace Go.Proofs.YtaplkbkpgdpbaaaGreatDoor.Tor
open Go.RowKit
open Go.Lib
open Go.Proofs.YtaplkbkpgdpbaaaGreatDoor.Fbs
open Go.Proofs.YtaplkbkpgdpbaaaGreatDoor.Fch
open Go.Proofs.YtaplkbkpgdpbaaaGreatDoor.Tri
open Go.Proofs.YtaplkbkpgdpbaaaGreatDoor.Fvs
open Go.Proofs.YtaplkbkpgdpbaaaGreatDoor.Hdl
open Go.Proofs.YtaplkbkpgdpbaaaGreatDoor.Tkr
open Go.Proofs.YtaplkbkpgdpbaaaGreatDoor.Rqb
open Go.Proofs.YtaplkbkpgdpbaaaGreatDoor.Lnp
open Go.Proofs.YtaplkbkpgdpbaaaGreatDoor.Fgd (goodF edgeB)

theorem good_all {l : List (ByteArray × ByteArray)} (h : goodL l = true) : l.length ≤ 40 ∧ ∀ c ∈ l, goodF c.1 c.2 = true := by
  unfold goodL at h
  rw [Bool.and_eq_true, List.all_eq_true] at h
  exact ⟨of_decide_eq_true h.1, h.2⟩
theorem fr_parts {l : List (ByteArray × ByteArray)} {B : ByteArray} (hg : goodL l = true) (h : frB l B = true) : B.size ≤ 300 ∧ lnO l = ((B.size : Int), true) ∧ lnN l = (B.size : Int) ∧ valsOf tenc l = [] ∧ lnV l ≠ -2 := by
  unfold frB at h
  simp only [Bool.and_eq_true] at h
  have h1 : lnN l = (B.size : Int) := of_decide_eq_true h.1
  have h2 : (B.size : Int) ≤ 300 := of_decide_eq_true h.2.1
  have h3 : valsOf tenc l = [] := of_decide_eq_true h.2.2
  have h4 : lnV l ≠ -2 := by
    intro e
    unfold lnN at h1
    rw [if_neg (by omega)] at h1
    omega
  refine ⟨by omega, ?_, h1, h3, h4⟩
  unfold lnO
  rw [if_pos hg, if_neg h4]
  unfold lnN at h1
  by_cases e : lnV l = -1
  · rw [if_pos e] at h1
    rw [if_pos (by omega), ← h1]
  · rw [if_neg e] at h1
    rw [if_neg (by omega), h1]
theorem rq_parts {M T : ByteArray} {l : List (ByteArray × ByteArray)} {B : ByteArray} (h : rqB M T l B = true) : mthB M = true ∧ tgtB T = true ∧ goodL l = true ∧ frB l B = true ∧ (headS (firstR M T) l).size ≤ 2000 := by
  unfold rqB at h
  simp only [Bool.and_eq_true] at h
  exact ⟨h.1, h.2.1, h.2.2.1, h.2.2.2.1, by have := of_decide_eq_true h.2.2.2.2; omega⟩
theorem map_fld {l : List (ByteArray × ByteArray)} (h : ∀ c ∈ l, goodF c.1 c.2 = true) : (l.map lineS).map fldO = l := by
  rw [List.map_map]
  have : ∀ c ∈ l, (fldO ∘ lineS) c = id c := fun c hc => (fld_line (h c hc)).1
  rw [List.map_congr_left this, List.map_id]

/-- What is taken of a text that begins with a good request's bytes. -/
theorem take_told {M T : ByteArray} {l : List (ByteArray × ByteArray)} {B : ByteArray} (h : rqB M T l B = true) (s : ByteArray) (r : List UInt8) (hs : s.data.toList = (headS (firstR M T) l).data.toList ++ (B.data.toList ++ r)) :
    cutO s = some (firstR M T :: l.map lineS, (headS (firstR M T) l).size) ∧ tkM (firstR M T :: l.map lineS) = (M, T) ∧ tkF (firstR M T :: l.map lineS) = l ∧ tkB s (firstR M T :: l.map lineS) (headS (firstR M T) l).size = B ∧ tkC s (firstR M T :: l.map lineS) (headS (firstR M T) l).size = 0 := by
  obtain ⟨h1, h2, h3, h4, h5⟩ := rq_parts h
  obtain ⟨_, hg⟩ := good_all h3
  obtain ⟨f1, f2⟩ := first_told h1 h2
  obtain ⟨b1, b2, _⟩ := fr_parts h3 h4
  have hc := (cut_head _ l s _ hs f2 (fun x hx => (fld_line (hg x hx)).2) h5).1
  have hM : tkM (firstR M T :: l.map lineS) = (M, T) := f1
  have hF : tkF (firstR M T :: l.map lineS) = l := map_fld hg
  have hH : (headS (firstR M T) l).data.toList.length = (headS (firstR M T) l).size := by simp
  have hBl : B.data.toList.length = B.size := by simp
  have hS : s.data.toList.length = s.size := by simp
  have hB : tkB s (firstR M T :: l.map lineS) (headS (firstR M T) l).size = B := by
    unfold tkB bodyO
    rw [hF, b2]
    have hr : s.extract (headS (firstR M T) l).size s.size = mkB (B.data.toList ++ r) := by
      have hsl : s.size = (headS (firstR M T) l).data.toList.length + (B.data.toList ++ r).length := by rw [← hS, hs, List.length_append]
      rw [mkB_extract, hs, ← hH, List.drop_left, List.take_of_length_le (by omega)]
    rw [hr]
    have hz : (mkB (B.data.toList ++ r)).size = B.size + r.length := by unfold mkB; show (B.data.toList ++ r).toArray.size = _; rw [List.size_toArray, List.length_append, hBl]
    rw [hz]
    show (mkB (B.data.toList ++ r)).extract 0 (min (B.size : Int).toNat (B.size + r.length)) = B
    rw [show min (B.size : Int).toNat (B.size + r.length) = B.size by omega, mkB_extract]
    have hd : (mkB (B.data.toList ++ r)).data.toList = B.data.toList ++ r := by unfold mkB; simp
    rw [hd, List.drop_zero, Nat.sub_zero, List.take_append_of_le_length (by omega), List.take_of_length_le (by omega), mkB_list]
  refine ⟨hc, hM, hF, hB, ?_⟩
  unfold tkC
  rw [hM, hF, hB]
  have := Rqb.rq_is M T l B
  rw [h] at this
  exact of_decide_eq_true this.symm

/-- What is taken of a good request's bytes, cut. -/
theorem take_torn {M T : ByteArray} {l : List (ByteArray × ByteArray)} {B : ByteArray} (h : rqB M T l B = true) (s : ByteArray) (k : Nat) (hk : k < (headS (firstR M T) l).size + B.size) (hs : s.data.toList = ((headS (firstR M T) l).data.toList ++ B.data.toList).take k) :
    (cutO s = none ∧ cdS s = 1) ∨ ∃ ls n, cutO s = some (ls, n) ∧ tkC s ls n = 1 := by
  obtain ⟨h1, h2, h3, h4, h5⟩ := rq_parts h
  obtain ⟨_, hg⟩ := good_all h3
  obtain ⟨f1, f2⟩ := first_told h1 h2
  obtain ⟨b1, b2, b3, b4, b5⟩ := fr_parts h3 h4
  obtain ⟨u, hu⟩ : ∃ u, u = headS (firstR M T) l ++ B := ⟨_, rfl⟩
  have hud : u.data.toList = (headS (firstR M T) l).data.toList ++ B.data.toList := by rw [hu]; simp
  have hc := cut_head _ l u B.data.toList hud f2 (fun x hx => (fld_line (hg x hx)).2) h5
  have hge : -1 ≤ index u.data.toList CC := Go.Lib.index_ge u.data.toList CC
  have hH : (headS (firstR M T) l).data.toList.length = (headS (firstR M T) l).size := by simp
  have hBl : B.data.toList.length = B.size := by simp
  have hul : u.data.toList.length = (headS (firstR M T) l).size + B.size := by rw [hud, List.length_append, hH, hBl]
  have hsl : s.size = k := by
    have : s.data.toList.length = s.size := by simp
    rw [← this, hs, ← hud, List.length_take, hul]; omega
  have hi4 := hc.2
  obtain ⟨p, hp⟩ : ∃ p : Nat, index u.data.toList CC = p := by
    rcases (show index u.data.toList CC = -1 ∨ 0 ≤ index u.data.toList CC by omega) with e | e
    · exfalso
      have := hc.1
      rw [cut_none e] at this
      cases this
    · exact ⟨(index u.data.toList CC).toNat, by omega⟩
  have hp4 : p + 4 = (headS (firstR M T) l).size := by omega
  rw [← hud] at hs
  by_cases hkp : k < p + 4
  · left
    refine ⟨cut_none (by rw [hs]; exact idx_late hp hkp), ?_⟩
    unfold cdS
    rw [hsl, if_neg (by omega)]
  · right
    have hi := idx_yes hp (show p + 4 ≤ k by omega) (by omega)
    rw [← hs] at hi
    have hcs := cut_some hi (by omega)
    have htk : s.data.toList.take p = u.data.toList.take p := by rw [hs, List.take_take, Nat.min_eq_left (by omega)]
    have hcu := cut_some hp (by omega)
    rw [htk] at hcs
    rw [hcu] at hc
    have hls := hc.1
    rw [hls] at hcu
    have e1 : (split (u.data.toList.take p) C).map mkB = firstR M T :: l.map lineS := congrArg Prod.fst (Option.some.inj hls)
    rw [e1] at hcs
    refine ⟨_, _, hcs, ?_⟩
    have hM : tkM (firstR M T :: l.map lineS) = (M, T) := f1
    have hF : tkF (firstR M T :: l.map lineS) = l := map_fld hg
    have hBz : (tkB s (firstR M T :: l.map lineS) (p + 4)).size < B.size := by
      unfold tkB bodyO
      rw [ByteArray.size_extract, ByteArray.size_extract]
      omega
    unfold tkC
    rw [hM, hF]
    unfold rqC
    rw [h1, h2, if_pos (by rfl)]
    have hf : fbC l (tkB s (firstR M T :: l.map lineS) (p + 4)) = 1 := by
      unfold fbC
      rw [if_neg (by rw [h3]; decide), if_neg (by simp [b4]), if_neg b5, if_neg (by omega), if_pos (by omega)]
    rw [hf, if_neg (by decide)]

end Go.Proofs.YtaplkbkpgdpbaaaGreatDoor.Tor

namespace Go.Proofs.YtaplkbkpgdpbaaaGreatDoor.Cur
open Go.RowKit

/-- All blocks that lay there but one are as they were. -/
def But (cb : Nat) (w w' : World) : Prop := w'.os = w.os ∧ w'.tape = w.tape ∧ w'.output = w.output ∧ w.heap.size ≤ w'.heap.size ∧ ∀ k, k < w.heap.size → k ≠ cb → w'.heap[k]? = w.heap[k]?

theorem But.refl (cb : Nat) (w : World) : But cb w w := ⟨rfl, rfl, rfl, Nat.le_refl _, fun _ _ _ => rfl⟩
theorem But.trans {cb : Nat} {a b c : World} (h : But cb a b) (k : But cb b c) : But cb a c :=
  ⟨k.1.trans h.1, k.2.1.trans h.2.1, k.2.2.1.trans h.2.2.1, Nat.le_trans h.2.2.2.1 k.2.2.2.1, fun i hi hc => (k.2.2.2.2 i (Nat.lt_of_lt_of_le hi h.2.2.2.1) hc).trans (h.2.2.2.2 i hi hc)⟩
theorem But.of_below {cb : Nat} {w w' : World} (h : Below w.heap.size w w') : But cb w w' := ⟨h.os, h.tape, h.output, h.size, fun k hk _ => h.block k hk⟩
theorem But.below {cb B : Nat} {w w' : World} (h : But cb w w') (hB : B ≤ cb) (hs : B ≤ w.heap.size) : Below B w w' := ⟨h.1, h.2.1, h.2.2.1, h.2.2.2.1, fun k hk => h.2.2.2.2 k (by omega) (by omega)⟩
theorem But.set {cb : Nat} {a w : World} (h : But cb a w) (o : Nat) (u : Value) : But cb a (w.setCell ⟨cb, o, none⟩ u) :=
  h.trans ⟨rfl, rfl, rfl, by simp [World.setCell], fun k _ hc => Below.heap_setCell _ _ _ _ (by simpa using hc)⟩
theorem But.drew {cb : Nat} {a w : World} (h : But cb a w) : But cb a w.drew := h
theorem But.cell {cb : Nat} {w w' : World} (h : But cb w w') {p : Addr} (hp : p.block < w.heap.size) (hc : p.block ≠ cb) : w'.cell? p = w.cell? p := by
  have := h.2.2.2.2 p.block hp hc
  unfold World.cell?
  rw [this]
theorem But.frozen {cb : Nat} {w w' : World} (h : But cb w w') {p : Addr} (hp : p.block < w.heap.size) (hc : p.block ≠ cb) : w'.frozen? p = w.frozen? p := by
  have := h.2.2.2.2 p.block hp hc
  unfold World.frozen?
  rw [this]

theorem ret_int {k : IntKind} {a b : Int} (h : a = b) : Ending.returned (.int k a) = .returned (.int k b) := by rw [h]
theorem add_block (a : Addr) (i : Nat) : (a.add i).block = a.block := by unfold Addr.add; split <;> rfl

/-- The bytes that are drawn from: an argument's. -/
def CodeIn (w : World) (cb : Nat) (v : Value) (n : Nat) : Prop :=
  (v = .slice none 0 0 ∧ n = 0) ∨ ∃ (a : Addr) (cap : Nat), v = .slice (some a) n cap ∧ n ≤ cap ∧ cap ≤ maxLen ∧ ∀ i, i < n → a.block < cb ∧ ∃ c : UInt8, w.cell? (a.add i) = some (.int .u8 (c.toNat : Int))

theorem CodeIn.but {w w' : World} {cb : Nat} {v : Value} {n : Nat} (h : CodeIn w cb v n) (hc : cb ≤ w.heap.size) (hb : But cb w w') : CodeIn w' cb v n := by
  rcases h with h | ⟨a, cap, h1, h2, h3, h6⟩
  · exact .inl h
  · refine .inr ⟨a, cap, h1, h2, h3, fun i hi => ?_⟩
    obtain ⟨h4, c, hc'⟩ := h6 i hi
    exact ⟨h4, c, (hb.cell (p := a.add i) (by rw [add_block]; omega) (by rw [add_block]; omega)).trans hc'⟩

/-- A cursor: the bytes, the place (at most N), and a seed. -/
def Cursor (w : World) (cb : Nat) (v : Value) (n N : Nat) : Prop :=
  CodeIn w cb v n ∧ n ≤ 2000000 ∧ cb < w.heap.size ∧ w.cell? ⟨cb, 0, none⟩ = some v ∧ (∃ a : Nat, a ≤ N ∧ w.cell? ⟨cb, 1, none⟩ = some (.int .i64 a)) ∧ (∃ s : Int, w.cell? ⟨cb, 2, none⟩ = some (.int .u64 s)) ∧ ∀ i, w.frozen? ⟨cb, i, none⟩ = false

theorem wrap_u (y : Int) : 0 ≤ IntKind.u64.wrap y ∧ IntKind.u64.wrap y < 18446744073709551616 := by
  have : IntKind.u64.wrap y = y % 18446744073709551616 := by rw [IntKind.wrap_u64]
  omega
theorem shr_byte (y : Int) : ∃ x : Nat, wrap64 (bits BinOp.and IntKind.u64 (IntKind.u64.wrap y / 1099511627776) 255) = (x : Int) ∧ x ≤ 255 := by
  obtain ⟨h1, h2⟩ := wrap_u y
  obtain ⟨m, hm⟩ := Int.eq_ofNat_of_zero_le (show 0 ≤ IntKind.u64.wrap y / 1099511627776 by omega)
  rw [hm, show (255 : Int) = ((255 : Nat) : Int) from rfl, bits_and_u64_nat m 255 (by omega) (by omega)]
  have := Nat.and_le_right (n := m) (m := 255)
  refine ⟨m &&& 255, ?_, this⟩
  unfold wrap64
  omega

theorem cursor_next {w w' : World} {cb n N a : Nat} {v : Value} {s' : Int} {q1 q2 : Nat} (hcode : CodeIn w cb v n) (hn : n ≤ 2000000) (hlt : cb < w.heap.size) (c0 : w.cell? ⟨cb, 0, none⟩ = some v) (ha : a ≤ N)
    (c1 : w.cell? ⟨cb, 1, none⟩ = some (.int .i64 a)) (c2 : ∃ s : Int, w.cell? ⟨cb, 2, none⟩ = some (.int .u64 s)) (fr : ∀ i, w.frozen? ⟨cb, i, none⟩ = false)
    (hw : w' = (((w.drewN q1).setCell ⟨cb, 1, none⟩ (.int .i64 ((a : Int) + 1))).setCell ⟨cb, 2, none⟩ (.int .u64 s')).drewN q2) : Cursor w' cb v n (N + 1) ∧ But cb w w' := by
  obtain ⟨s, c2⟩ := c2
  have hB : But cb w w' := by
    rw [hw]
    exact ((((But.refl cb w).set 1 (.int .i64 ((a : Int) + 1))).set 2 (.int .u64 s')) : But cb w _)
  refine ⟨⟨hcode.but (Nat.le_of_lt hlt) hB, hn, Nat.lt_of_lt_of_le hlt hB.2.2.2.1, ?_, ⟨a + 1, by omega, ?_⟩, ⟨s', ?_⟩, ?_⟩, hB⟩
  · rw [hw]; simp [go_sem, c0]
  · rw [hw]; simp [go_sem, c1]
  · rw [hw]; simp [go_sem, c2]
  · intro i; rw [hw]; simp [go_sem, fr]

set_option maxHeartbeats 1600000 in
theorem next_any (cb : Nat) (v : Value) (n N : Nat) (w : World) (hC : Cursor w cb v n N) (hN : N ≤ 1000000000) :
    Calls Tryz.prog 136 #[.pointer (some ⟨cb, 0, none⟩)] w fun e w' => ∃ x : Nat, e = .returned (.int .i64 x) ∧ x ≤ 255 ∧ Cursor w' cb v n (N + 1) ∧ But cb w w' := by
  obtain ⟨hcode, hn, hlt, c0, ⟨a, ha, c1⟩, ⟨s, c2⟩, fr⟩ := hC
  have hcode' := hcode
  rcases hcode' with ⟨rfl, rfl⟩ | ⟨ad, cap, rfl, h2, h3, h6⟩
  · obtain ⟨x, hx, hx2⟩ := shr_byte (IntKind.u64.wrap (IntKind.u64.wrap (s * 6364136223846793005)) + 1442695040888963407)
    have HX : Hid _ := hx
    go_enter Tryz.func136, Tryz.ntmps136
    go_wp2_with fail
    go_quiet (fail)
    go_wp2_with fail
    go_quiet (fail)
    go_wp2_with fail
    go_ret
    exact ⟨x, ret_int HX.out, hx2, cursor_next hcode hn hlt c0 ha c1 ⟨s, c2⟩ fr rfl⟩
  · by_cases hl : a < n
    · obtain ⟨h4, c, hc⟩ := h6 a hl
      have hcb := c.toNat_lt
      go_enter Tryz.func136, Tryz.ntmps136
      go_wp2_with fail
      go_quiet (fail)
      go_wp2_with fail
      go_quiet (fail)
      go_wp2_with fail
      go_quiet (fail)
      go_wp2_with fail
      go_ret
      exact ⟨c.toNat, rfl, by omega, cursor_next hcode hn hlt c0 ha c1 ⟨s, c2⟩ fr rfl⟩
    · obtain ⟨x, hx, hx2⟩ := shr_byte (IntKind.u64.wrap (IntKind.u64.wrap (s * 6364136223846793005)) + 1442695040888963407)
      have HX : Hid _ := hx
      go_enter Tryz.func136, Tryz.ntmps136
      go_wp2_with fail
      go_quiet (fail)
      go_wp2_with fail
      go_quiet (fail)
      go_wp2_with fail
      go_ret
      exact ⟨x, ret_int HX.out, hx2, cursor_next hcode hn hlt c0 ha c1 ⟨s, c2⟩ fr rfl⟩

theorem Cursor.mono {w : World} {cb n N M : Nat} {v : Value} (h : Cursor w cb v n N) (hM : N ≤ M) : Cursor w cb v n M := by
  obtain ⟨h1, h2, h3, h4, ⟨a, ha, h5⟩, h6, h7⟩ := h
  exact ⟨h1, h2, h3, h4, ⟨a, by omega, h5⟩, h6, h7⟩
/-- Memory made, or another block turned, leaves a cursor as it is. -/
theorem Cursor.below {w w' : World} {cb n N : Nat} {v : Value} (h : Cursor w cb v n N) (hb : Below w.heap.size w w') : Cursor w' cb v n N := by
  obtain ⟨h1, h2, h3, h4, ⟨a, ha, h5⟩, ⟨s, h6⟩, h7⟩ := h
  have e : ∀ i, w'.cell? ⟨cb, i, none⟩ = w.cell? ⟨cb, i, none⟩ := fun i => hb.cell (p := ⟨cb, i, none⟩) h3
  refine ⟨h1.but (Nat.le_of_lt h3) (But.of_below hb), h2, Nat.lt_of_lt_of_le h3 hb.size, (e 0).trans h4, ⟨a, ha, (e 1).trans h5⟩, ⟨s, (e 2).trans h6⟩, fun i => (hb.frozen (p := ⟨cb, i, none⟩) h3).trans (h7 i)⟩

set_option maxHeartbeats 1600000 in
theorem pick_any (cb : Nat) (v : Value) (n N k : Nat) (w : World) (hC : Cursor w cb v n N) (hN : N ≤ 900000000) (h1 : 1 ≤ k) (h2 : k ≤ 1000000) :
    Calls Tryz.prog 100 #[.pointer (some ⟨cb, 0, none⟩), .int .i64 k] w fun e w' => ∃ x : Nat, e = .returned (.int .i64 x) ∧ x < k ∧ Cursor w' cb v n (N + 2) ∧ But cb w w' := by
  by_cases hk : k = 1
  · subst hk
    go_enter Tryz.func100, Tryz.ntmps100
    go_wp2_with fail
    go_ret
    exact ⟨0, rfl, by omega, hC.mono (by omega), But.refl _ _⟩
  · by_cases h200 : 200 < k
    · have HC : Hid _ := hC
      clear hC
      go_enter Tryz.func100, Tryz.ntmps100
      go_wp2_with fail
      refine (next_any cb v n N _ HC.out (by omega)).mono ?_
      rintro e w1 ⟨x1, rfl, hx1, hC1, hb1⟩
      have HC1 : Hid _ := hC1
      have Hb1 : Hid _ := hb1
      clear hC1 hb1
      go_wp2_with fail
      refine (next_any cb v n (N + 1) _ HC1.out (by omega)).mono ?_
      rintro e w2 ⟨x2, rfl, hx2, hC2, hb2⟩
      have HC2 : Hid _ := hC2
      have Hb2 : Hid _ := hb2
      clear hC2 hb2
      have hr : ((x1 : Int) * 256 + x2) % (k : Int) = (((x1 * 256 + x2) % k : Nat) : Int) := by
        rw [show (x1 : Int) * 256 + x2 = ((x1 * 256 + x2 : Nat) : Int) from by omega]; exact (Int.natCast_emod _ _).symm
      have hlt := Nat.mod_lt (x1 * 256 + x2) (show k > 0 by omega)
      go_wp2_with fail
      go_ret
      exact ⟨(x1 * 256 + x2) % k, ret_int (by first | exact hr | omega), hlt, HC2.out, But.trans Hb1.out Hb2.out⟩
    · have HC : Hid _ := hC
      clear hC
      go_enter Tryz.func100, Tryz.ntmps100
      go_wp2_with fail
      refine (next_any cb v n N _ HC.out (by omega)).mono ?_
      rintro e w1 ⟨x1, rfl, hx1, hC1, hb1⟩
      have HC1 : Hid _ := hC1
      have Hb1 : Hid _ := hb1
      clear hC1 hb1
      have hr : (x1 : Int) % (k : Int) = ((x1 % k : Nat) : Int) := (Int.natCast_emod _ _).symm
      have hlt := Nat.mod_lt x1 (show k > 0 by omega)
      go_wp2_with fail
      go_ret
      exact ⟨x1 % k, ret_int (by first | exact hr | omega), hlt, Cursor.mono HC1.out (by omega), Hb1.out⟩

theorem one_any (cb : Nat) (v : Value) (n N k : Nat) (w : World) (hC : Cursor w cb v n N) (hN : N ≤ 900000000) (h1 : 1 ≤ k) (h2 : k ≤ 1000000) :
    Calls Tryz.prog 99 #[.pointer (some ⟨cb, 0, none⟩), .int .i64 k] w fun e w' => ∃ b : Bool, e = .returned (.bool b) ∧ Cursor w' cb v n (N + 2) ∧ But cb w w' := by
  have HC : Hid _ := hC
  clear hC
  go_enter Tryz.func99, Tryz.ntmps99
  go_wp2_with fail
  refine (pick_any cb v n N k _ HC.out hN h1 h2).mono ?_
  rintro e w1 ⟨x, rfl, hx, hC1, hb1⟩
  have HC1 : Hid _ := hC1
  have Hb1 : Hid _ := hb1
  clear hC1 hb1
  go_wp2_with fail
  go_ret
  exact ⟨_, rfl, HC1.out, Hb1.out⟩

/-- A store into a later block leaves a cursor as it is. -/
theorem Cursor.set {w : World} {cb n N : Nat} {v : Value} (h : Cursor w cb v n N) {b j : Nat} (hb : cb < b) (u : Value) : Cursor (w.setCell ⟨b, j, none⟩ u) cb v n N := by
  have hB : Below b w (w.setCell ⟨b, j, none⟩ u) := (Below.refl b w).setCell (Nat.le_refl _) u
  obtain ⟨h1, h2, h3, h4, ⟨a, ha, h5⟩, ⟨s, h6⟩, h7⟩ := h
  have e : ∀ i, (w.setCell ⟨b, j, none⟩ u).cell? ⟨cb, i, none⟩ = w.cell? ⟨cb, i, none⟩ := fun i => hB.cell (p := ⟨cb, i, none⟩) hb
  refine ⟨?_, h2, by simpa [World.setCell] using h3, (e 0).trans h4, ⟨a, ha, (e 1).trans h5⟩, ⟨s, (e 2).trans h6⟩, fun i => (hB.frozen (p := ⟨cb, i, none⟩) hb).trans (h7 i)⟩
  rcases h1 with h | ⟨a, cap, k1, k2, k3, k6⟩
  · exact .inl h
  · refine .inr ⟨a, cap, k1, k2, k3, fun i hi => ?_⟩
    obtain ⟨k4, c, hc⟩ := k6 i hi
    exact ⟨k4, c, (hB.cell (p := a.add i) (by rw [add_block]; omega)).trans hc⟩

end Go.Proofs.YtaplkbkpgdpbaaaGreatDoor.Cur

namespace Go.Proofs.YtaplkbkpgdpbaaaGreatDoor.Cur
open Go.RowKit

theorem bcells {cb : Nat} {w0 w1 : World} (hb : But cb w0 w1) : (∀ b o, b < w0.heap.size → b ≠ cb → w1.cell? ⟨b, o, none⟩ = w0.cell? ⟨b, o, none⟩) ∧ (∀ b o, b < w0.heap.size → b ≠ cb → w1.frozen? ⟨b, o, none⟩ = w0.frozen? ⟨b, o, none⟩) :=
  ⟨fun b o h h' => hb.cell (p := ⟨b, o, none⟩) h h', fun b o h h' => hb.frozen (p := ⟨b, o, none⟩) h h'⟩

/-- All blocks below B but one are as they were. -/
def ButB (B cb : Nat) (w w' : World) : Prop := w'.os = w.os ∧ w'.tape = w.tape ∧ w'.output = w.output ∧ w.heap.size ≤ w'.heap.size ∧ ∀ k, k < B → k ≠ cb → w'.heap[k]? = w.heap[k]?
theorem ButB.refl (B cb : Nat) (w : World) : ButB B cb w w := ⟨rfl, rfl, rfl, Nat.le_refl _, fun _ _ _ => rfl⟩
theorem ButB.alloc {B cb : Nat} {w w' : World} (h : ButB B cb w w') (hB : B ≤ w.heap.size) (o : Obj) : ButB B cb w (w'.alloc o) :=
  ⟨h.1, h.2.1, h.2.2.1, by have := h.2.2.2.1; simp; omega, fun k hk hc => (Below.heap_alloc w' o k (by have := h.2.2.2.1; omega)).trans (h.2.2.2.2 k hk hc)⟩
theorem ButB.set {B cb : Nat} {w w' : World} (h : ButB B cb w w') {p : Addr} (hp : B ≤ p.block ∨ p.block = cb) (u : Value) : ButB B cb w (w'.setCell p u) :=
  ⟨h.1, h.2.1, h.2.2.1, by have := h.2.2.2.1; simpa [World.setCell] using this, fun k hk hc => (Below.heap_setCell _ _ _ _ (by omega)).trans (h.2.2.2.2 k hk hc)⟩
theorem ButB.call {B cb : Nat} {w w1 w2 : World} (h : ButB B cb w w1) (hB : B ≤ w.heap.size) (k : But cb w1 w2) : ButB B cb w w2 :=
  ⟨k.1.trans h.1, k.2.1.trans h.2.1, k.2.2.1.trans h.2.2.1, Nat.le_trans h.2.2.2.1 k.2.2.2.1, fun i hi hc => (k.2.2.2.2 i (by have := h.2.2.2.1; omega) hc).trans (h.2.2.2.2 i hi hc)⟩
theorem ButB.out {cb : Nat} {w w' : World} (h : ButB w.heap.size cb w w') : But cb w w' := h

/-- A block of six integers of the call's own. -/
def Six (w : World) (b : Nat) : Prop := b < w.heap.size ∧ (∀ i, w.frozen? ⟨b, i, none⟩ = false) ∧ ∃ z0 z1 z2 z3 z4 z5 : Int, w.cell? ⟨b, 0, none⟩ = some (.int .i64 z0) ∧ w.cell? ⟨b, 1, none⟩ = some (.int .i64 z1) ∧ w.cell? ⟨b, 2, none⟩ = some (.int .i64 z2) ∧ w.cell? ⟨b, 3, none⟩ = some (.int .i64 z3) ∧ w.cell? ⟨b, 4, none⟩ = some (.int .i64 z4) ∧ w.cell? ⟨b, 5, none⟩ = some (.int .i64 z5)
theorem Six.made (w : World) (z0 z1 z2 z3 z4 z5 : Int) (t : TypeId) : Six (w.alloc (.cells #[.int .i64 z0, .int .i64 z1, .int .i64 z2, .int .i64 z3, .int .i64 z4, .int .i64 z5] t)) w.heap.size :=
  ⟨by simp, fun i => World.frozen?_alloc_at _ t _ i rfl, z0, z1, z2, z3, z4, z5, by rw [World.cell?_alloc_mark]; rfl, by rw [World.cell?_alloc_mark]; rfl, by rw [World.cell?_alloc_mark]; rfl, by rw [World.cell?_alloc_mark]; rfl, by rw [World.cell?_alloc_mark]; rfl, by rw [World.cell?_alloc_mark]; rfl⟩
theorem Six.alloc {w : World} {b : Nat} (h : Six w b) (o : Obj) : Six (w.alloc o) b := by
  obtain ⟨h1, h2, z0, z1, z2, z3, z4, z5, k0, k1, k2, k3, k4, k5⟩ := h
  refine ⟨by simp; omega, fun i => (World.frozen?_alloc_past o b i h1).trans (h2 i), z0, z1, z2, z3, z4, z5, ?_, ?_, ?_, ?_, ?_, ?_⟩ <;> rw [World.cell?_alloc_past o b _ h1] <;> assumption
theorem Six.but {w w' : World} {b cb : Nat} (h : Six w b) (hb : But cb w w') (hc : b ≠ cb) : Six w' b := by
  obtain ⟨h1, h2, z0, z1, z2, z3, z4, z5, k0, k1, k2, k3, k4, k5⟩ := h
  have e := (bcells hb).1 b
  refine ⟨Nat.lt_of_lt_of_le h1 hb.2.2.2.1, fun i => ((bcells hb).2 b i h1 hc).trans (h2 i), z0, z1, z2, z3, z4, z5, ?_, ?_, ?_, ?_, ?_, ?_⟩ <;> rw [e _ h1 hc] <;> assumption
theorem Six.set {w : World} {b : Nat} (h : Six w b) (b' j : Nat) (z : Int) : Six (w.setCell ⟨b', j, none⟩ (.int .i64 z)) b := by
  obtain ⟨h1, h2, z0, z1, z2, z3, z4, z5, k0, k1, k2, k3, k4, k5⟩ := h
  have e : ∀ (i : Nat) (x : Int), w.cell? ⟨b, i, none⟩ = some (.int .i64 x) → ∃ x' : Int, (w.setCell ⟨b', j, none⟩ (.int .i64 z)).cell? ⟨b, i, none⟩ = some (.int .i64 x') := by
    intro i x hx
    by_cases hs : b = b' ∧ i = j
    · obtain ⟨rfl, rfl⟩ := hs
      exact ⟨z, by simp [go_sem, hx]⟩
    · refine ⟨x, ?_⟩
      rw [← hx]
      by_cases hbb : b = b'
      · subst hbb
        have hij : i ≠ j := fun e => hs ⟨rfl, e⟩
        simp [go_sem]
      · simp [go_sem]
  obtain ⟨y0, e0⟩ := e 0 z0 k0
  obtain ⟨y1, e1⟩ := e 1 z1 k1
  obtain ⟨y2, e2⟩ := e 2 z2 k2
  obtain ⟨y3, e3⟩ := e 3 z3 k3
  obtain ⟨y4, e4⟩ := e 4 z4 k4
  obtain ⟨y5, e5⟩ := e 5 z5 k5
  exact ⟨by simpa [World.setCell] using h1, fun i => by simp [go_sem, h2], y0, y1, y2, y3, y4, y5, e0, e1, e2, e3, e4, e5⟩

set_option maxHeartbeats 800000 in
theorem among_any (cb b m : Nat) (v : Value) (n N : Nat) (w : World) (hC : Cursor w cb v n N) (hN : N ≤ 900000000) (h1 : 1 ≤ m) (h2 : m ≤ 1000) (hb : b < w.heap.size) (hbc : b ≠ cb) (hcell : ∀ i, i < m → ∃ z : Int, w.cell? ⟨b, i, none⟩ = some (.int .i64 z)) :
    Calls Tryz.prog 108 #[.pointer (some ⟨cb, 0, none⟩), .slice (some ⟨b, 0, none⟩) m m] w fun e w' => ∃ x : Int, e = .returned (.int .i64 x) ∧ Cursor w' cb v n (N + 2) ∧ But cb w w' := by
  have HC : Hid _ := hC
  have HL : Hid _ := hcell
  clear hC hcell
  go_enter Tryz.func108, Tryz.ntmps108
  go_wp2_with fail
  refine (pick_any cb v n N m _ HC.out hN h1 (by omega)).mono ?_
  rintro e w1 ⟨x, rfl, hx, hC1, hb1⟩
  obtain ⟨z, hz⟩ := HL.out x hx
  have hz1 := ((bcells hb1).1 b x hb hbc).trans hz
  have HC1 : Hid _ := hC1
  have Hb1 : Hid _ := hb1
  clear hC1 hb1
  go_wp2_with fail
  go_ret
  exact ⟨z, rfl, HC1.out, Hb1.out⟩

end Go.Proofs.YtaplkbkpgdpbaaaGreatDoor.Cur

namespace Go.Proofs.YtaplkbkpgdpbaaaGreatDoor.Cur
open Go.ChangeShapes Go.WideShapes Go.ChangeAt Go.RowKit

/-- Bytes among the arguments. -/
def CodeArg (w : World) (v : Value) (n : Nat) : Prop :=
  (v = .slice none 0 0 ∧ n = 0) ∨ ∃ (a : Addr) (cap : Nat), v = .slice (some a) n cap ∧ n ≤ cap ∧ cap ≤ maxLen ∧ ∀ i, i < n → a.block < w.heap.size ∧ ∃ c : UInt8, w.cell? (a.add i) = some (.int .u8 (c.toNat : Int))

theorem CodeArg.below {B : Nat} {w w' : World} {v : Value} {n : Nat} (h : CodeArg w v n) (hB : w.heap.size ≤ B) (hb : Below B w w') : CodeArg w' v n := by
  rcases h with h | ⟨a, cap, h1, h2, h3, h6⟩
  · exact .inl h
  · refine .inr ⟨a, cap, h1, h2, h3, fun i hi => ?_⟩
    obtain ⟨h4, c, hc⟩ := h6 i hi
    exact ⟨Nat.lt_of_lt_of_le h4 hb.size, c, (hb.cell (p := a.add i) (by rw [add_block]; omega)).trans hc⟩
theorem CodeArg.to {w : World} {v : Value} {n cb : Nat} (h : CodeArg w v n) (hc : w.heap.size ≤ cb) : CodeIn w cb v n := by
  rcases h with h | ⟨a, cap, h1, h2, h3, h6⟩
  · exact .inl h
  · refine .inr ⟨a, cap, h1, h2, h3, fun i hi => ?_⟩
    obtain ⟨h4, c, hc'⟩ := h6 i hi
    exact ⟨by omega, c, hc'⟩

/-- The cursor that a draw begins with. -/
theorem start {w : World} {v : Value} {n : Nat} (h : CodeArg w v n) (hn : n ≤ 2000000) (t : TypeId) : Cursor (w.alloc (.cells #[v, .int .i64 0, .int .u64 0] t)) w.heap.size v n 0 := by
  refine ⟨?_, hn, by simp, by rw [World.cell?_alloc_mark]; rfl, ⟨0, Nat.le_refl _, by rw [World.cell?_alloc_mark]; rfl⟩, ⟨0, by rw [World.cell?_alloc_mark]; rfl⟩, fun i => World.frozen?_alloc_at _ t _ i rfl⟩
  have hb := (Below.refl w.heap.size w).alloc (Nat.le_refl _) (.cells #[v, .int .i64 0, .int .u64 0] t)
  rcases h with h | ⟨a, cap, h1, h2, h3, h6⟩
  · exact .inl h
  · refine .inr ⟨a, cap, h1, h2, h3, fun i hi => ?_⟩
    obtain ⟨h4, c, hc'⟩ := h6 i hi
    exact ⟨h4, c, (hb.cell (p := a.add i) (by rw [add_block]; exact h4)).trans hc'⟩

set_option maxRecDepth 100000 in
theorem code_open {H : Type} {enc : TypeId × Value → H} {W : World} {r : Reach} {b0 base : Nat} {sp : Nat → Bool} {held : Bool} {v : Value} {d : DataW H} {p : List MemPlace}
    (hv : Value.okWide Tryz.prog W r b0 22 v) (h : DataW.Trod enc Tryz.prog W base sp held 22 v d p) : ∃ n, CodeArg W v n ∧ (n = 0 ∨ ∃ elems spare, d = .slice elems spare ∧ elems.length = n) := by
  obtain ⟨a, len, cap, rfl⟩ := okWide_slice Tryz.underlying22 hv
  obtain ⟨fuel, hf⟩ := h
  rcases open_ints Tryz.underlying22 Tryz.underlying5 (by kernel_rfl) hf with ⟨hc, _⟩ | ⟨a', len', cap', zs, hc, _, hl, hm, hz, hx, hcell, hwf⟩
  · simp [Value.cells] at hc
    obtain ⟨rfl, rfl, rfl⟩ := hc
    exact ⟨0, .inl ⟨rfl, rfl⟩, .inl rfl⟩
  · simp [Value.cells] at hc
    obtain ⟨rfl, rfl, rfl⟩ := hc
    have hlz : len ≤ zs.length := by rw [hz]; split <;> omega
    refine ⟨len, .inr ⟨a', cap, rfl, hl, hm, fun i hi => ?_⟩, .inr ⟨_, _, congrArg Prod.fst hx, by simp [lits]; omega⟩⟩
    have hi' : i < zs.length := by rw [hz]; split <;> omega
    have hc := hcell i hi'
    have hw : (Lit.int .u8 (zs.getD i 0)).wf = true := hwf _ (by rw [List.getD, List.getElem?_eq_getElem hi']; exact List.getElem_mem hi')
    have hb : 0 ≤ zs.getD i 0 ∧ zs.getD i 0 ≤ 255 := by
      simp only [Lit.wf, IntKind.min, IntKind.max, IntKind.signed, IntKind.bits, Bool.and_eq_true] at hw
      simpa using hw
    have hlt := World.block_lt_of_cell? W _ hc
    rw [add_block] at hlt
    refine ⟨hlt, UInt8.ofNat (zs.getD i 0).toNat, hc.trans ?_⟩
    have : ((UInt8.ofNat (zs.getD i 0).toNat).toNat : Int) = zs.getD i 0 := by rw [UInt8.toNat_ofNat']; omega
    rw [this]

theorem code_bound {H : Type} {ts : List TypeId} {ds : List (DataW H)} {j n : Nat} {t : TypeId} {d : DataW H} (h : (DataW.weightsEach Tryz.prog ts ds).all (· ≤ reachBytes) = true) (ht : ts[j]? = some t) (hd : ds[j]? = some d)
    (hx : n = 0 ∨ ∃ elems spare, d = .slice elems spare ∧ elems.length = n) (hu : Tryz.prog.underlying t = some (.slice 5) := by kernel_rfl) : n ≤ reachBytes := by
  rcases hx with rfl | ⟨elems, spare, rfl, rfl⟩
  · exact Nat.zero_le _
  · have := sized_slice h ht hd hu
    rw [show Tryz.prog.bytesOf 5 = 1 by kernel_rfl, Nat.mul_one] at this
    omega

theorem CodeArg.form {w : World} {v : Value} {n : Nat} (h : CodeArg w v n) : ∃ o cap, v = .slice o n cap := by
  rcases h with ⟨h, rfl⟩ | ⟨a, cap, h, _⟩
  · exact ⟨none, 0, h⟩
  · exact ⟨some a, cap, h⟩

theorem ints_made (w : World) (zs : List Int) (t : TypeId) (b : Nat) (hb : b = w.heap.size) : ∀ i, i < zs.length → ∃ z : Int, (w.alloc (.cells (zs.map fun z => Value.int .i64 z).toArray t)).cell? ⟨b, i, none⟩ = some (.int .i64 z) := by
  subst hb
  intro i hi
  exact ⟨zs[i], by rw [World.cell?_alloc_mark]; simp [hi]⟩

theorem pick_at (k : Nat) (K : Int) (hK : K = (k : Int)) (cb : Nat) (v : Value) (n N : Nat) (w : World) (hC : Cursor w cb v n N) (hN : N ≤ 900000000) (h1 : 1 ≤ k) (h2 : k ≤ 1000000) :
    Calls Tryz.prog 100 #[.pointer (some ⟨cb, 0, none⟩), .int .i64 K] w fun e w' => ∃ x : Nat, e = .returned (.int .i64 x) ∧ x < k ∧ Cursor w' cb v n (N + 2) ∧ But cb w w' := by
  subst hK
  exact pick_any cb v n N k w hC hN h1 h2

theorem one_at (k : Nat) (K : Int) (hK : K = (k : Int)) (cb : Nat) (v : Value) (n N : Nat) (w : World) (hC : Cursor w cb v n N) (hN : N ≤ 900000000) (h1 : 1 ≤ k) (h2 : k ≤ 1000000) :
    Calls Tryz.prog 99 #[.pointer (some ⟨cb, 0, none⟩), .int .i64 K] w fun e w' => ∃ b : Bool, e = .returned (.bool b) ∧ Cursor w' cb v n (N + 2) ∧ But cb w w' := by
  subst hK
  exact one_any cb v n N k w hC hN h1 h2

theorem texts_made (w : World) (xs : List ByteArray) (M : Nat) (hM : ∀ x ∈ xs, x.size ≤ M) (t : TypeId) (b : Nat) (hb : b = w.heap.size) : ∀ i, i < xs.length → ∃ x : ByteArray, x.size ≤ M ∧ (w.alloc (.cells (xs.map Value.string).toArray t)).cell? ⟨b, i, none⟩ = some (.string x) := by
  subst hb
  intro i hi
  exact ⟨xs[i], hM _ (List.getElem_mem hi), by rw [World.cell?_alloc_mark]; simp [hi]⟩

set_option maxHeartbeats 800000 in
theorem of_any (cb b m M : Nat) (v : Value) (n N : Nat) (w : World) (hC : Cursor w cb v n N) (hN : N ≤ 900000000) (h1 : 1 ≤ m) (h2 : m ≤ 1000) (hb : b < w.heap.size) (hbc : b ≠ cb) (hcell : ∀ i, i < m → ∃ x : ByteArray, x.size ≤ M ∧ w.cell? ⟨b, i, none⟩ = some (.string x)) :
    Calls Tryz.prog 97 #[.pointer (some ⟨cb, 0, none⟩), .slice (some ⟨b, 0, none⟩) m m] w fun e w' => ∃ x : ByteArray, e = .returned (.string x) ∧ x.size ≤ M ∧ Cursor w' cb v n (N + 2) ∧ But cb w w' := by
  have HC : Hid _ := hC
  have HL : Hid _ := hcell
  clear hC hcell
  go_enter Tryz.func97, Tryz.ntmps97
  go_wp2_with fail
  refine (pick_any cb v n N m _ HC.out hN h1 (by omega)).mono ?_
  rintro e w1 ⟨x, rfl, hx, hC1, hb1⟩
  obtain ⟨z, hM, hz⟩ := HL.out x hx
  have hz1 := ((bcells hb1).1 b x hb hbc).trans hz
  have HC1 : Hid _ := hC1
  have Hb1 : Hid _ := hb1
  clear hC1 hb1
  go_wp2_with fail
  go_ret
  exact ⟨z, rfl, hM, HC1.out, Hb1.out⟩

end Go.Proofs.YtaplkbkpgdpbaaaGreatDoor.Cur

namespace Go.Proofs.YtaplkbkpgdpbaaaGreatDoor.Cur
open Go.RowKit
open Go.Proofs.YtaplkbkpgdpbaaaGreatDoor.Own

theorem But.then {cb : Nat} {w wr w' : World} (h : But cb w wr) (hb : Below w.heap.size wr w') : But cb w w' :=
  ⟨hb.os.trans h.1, hb.tape.trans h.2.1, hb.output.trans h.2.2.1, Nat.le_trans h.2.2.2.1 hb.size, fun k hk hc => (hb.block k hk).trans (h.2.2.2.2 k hk hc)⟩
theorem Cursor.belowB {w w' : World} {B cb n N : Nat} {v : Value} (h : Cursor w cb v n N) (hB : cb < B) (hb : Below B w w') : Cursor w' cb v n N := by
  obtain ⟨h1, h2, h3, h4, ⟨a, ha, h5⟩, ⟨s, h6⟩, h7⟩ := h
  have e : ∀ i, w'.cell? ⟨cb, i, none⟩ = w.cell? ⟨cb, i, none⟩ := fun i => hb.cell (p := ⟨cb, i, none⟩) hB
  refine ⟨?_, h2, Nat.lt_of_lt_of_le h3 hb.size, (e 0).trans h4, ⟨a, ha, (e 1).trans h5⟩, ⟨s, (e 2).trans h6⟩, fun i => (hb.frozen (p := ⟨cb, i, none⟩) hB).trans (h7 i)⟩
  rcases h1 with h | ⟨a, cap, k1, k2, k3, k6⟩
  · exact .inl h
  · refine .inr ⟨a, cap, k1, k2, k3, fun i hi => ?_⟩
    obtain ⟨k4, c, hc⟩ := k6 i hi
    exact ⟨k4, c, (hb.cell (p := a.add i) (by rw [add_block]; omega)).trans hc⟩
theorem bytes_but {w w' : World} {B cb : Nat} {v : Value} {l : List UInt8} (h : bytesIn w B v l) (hb : But cb w w') (hc : cb < B) : bytesIn w' B v l := by
  refine ⟨h.1, ?_⟩
  rcases h.2 with hn | ⟨g, cap, cur, rfl, hbg, hg, rest⟩
  · exact .inl hn
  · exact .inr ⟨g, cap, cur, rfl, hbg, (hb.2.2.2.2 g (Array.getElem?_eq_some_iff.1 hg).1 (by omega)).trans hg, rest⟩

end Go.Proofs.YtaplkbkpgdpbaaaGreatDoor.Cur


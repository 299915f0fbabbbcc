/-
  Walks: spec.l3List and spec.ListOf: the parts of a list.
-/
import Derived.Test.YtfgcgnhffljiaaaGreatDoorTri
namespace Go.Proofs.YtfgcgnhffljiaaaGreatDoor.Lsp
open Go.RowKit
open Go.Proofs.YtfgcgnhffljiaaaGreatDoor.Fbs
open Go.Proofs.YtfgcgnhffljiaaaGreatDoor.Ows
open Go.Proofs.YtfgcgnhffljiaaaGreatDoor.Tri

def at0 (s : ByteArray) (k : Nat) : UInt8 := s.data.toList[k]?.getD 0
/-- A part that is not empty behind those so far. -/
def addT (acc : List ByteArray) (x : ByteArray) : List ByteArray := if x.size = 0 then acc else acc ++ [x]
/-- The parts of a list, round by round: at the place i, the part begun at 'fr', within quotes or not, those so far. -/
def listF (s : ByteArray) : Nat → Nat → Nat → Bool → List ByteArray → Option (List ByteArray)
  | 0, _, _, _, _ => none
  | f + 1, i, fr, op, acc =>
    if i < s.size then
      if (at0 s i).toNat = 44 ∧ op = false then listF s f (i + 1) (i + 1) false (addT acc (trimS (s.extract fr i)))
      else if (at0 s i).toNat = 34 then listF s f (i + 1) fr (!op) acc
      else if (at0 s i).toNat = 92 ∧ op = true then (if i + 1 = s.size then none else listF s f (i + 2) fr op acc)
      else listF s f (i + 1) fr op acc
    else if op = true then none else some (addT acc (trimS (s.extract fr i)))

theorem listF_comma {s : ByteArray} {f i fr : Nat} {acc : List ByteArray} (h : i < s.size) (hc : (at0 s i).toNat = 44) : listF s (f + 1) i fr false acc = listF s f (i + 1) (i + 1) false (addT acc (trimS (s.extract fr i))) := by
  simp only [listF]; rw [if_pos h, if_pos (by simp [hc])]
theorem listF_quote {s : ByteArray} {f i fr : Nat} {op : Bool} {acc : List ByteArray} (h : i < s.size) (hc : (at0 s i).toNat = 34) : listF s (f + 1) i fr op acc = listF s f (i + 1) fr (!op) acc := by
  simp only [listF]; rw [if_pos h, if_neg (by omega), if_pos hc]
theorem listF_cut {s : ByteArray} {f i fr : Nat} {acc : List ByteArray} (h : i + 1 = s.size) (hc : (at0 s i).toNat = 92) : listF s (f + 1) i fr true acc = none := by
  simp only [listF]; rw [if_pos (by omega), if_neg (by omega), if_neg (by omega), if_pos (by simp [hc]), if_pos h]
theorem listF_esc {s : ByteArray} {f i fr : Nat} {acc : List ByteArray} (h : i + 1 < s.size) (hc : (at0 s i).toNat = 92) : listF s (f + 1) i fr true acc = listF s f (i + 2) fr true acc := by
  simp only [listF]; rw [if_pos (by omega), if_neg (by omega), if_neg (by omega), if_pos (by simp [hc]), if_neg (by omega)]
theorem listF_one {s : ByteArray} {f i fr : Nat} {op : Bool} {acc : List ByteArray} (h : i < s.size) (h1 : ¬ ((at0 s i).toNat = 44 ∧ op = false)) (h2 : (at0 s i).toNat ≠ 34) (h3 : ¬ ((at0 s i).toNat = 92 ∧ op = true)) : listF s (f + 1) i fr op acc = listF s f (i + 1) fr op acc := by
  simp only [listF]; rw [if_pos h, if_neg h1, if_neg h2, if_neg h3]
theorem listF_open {s : ByteArray} {f i fr : Nat} {acc : List ByteArray} (h : s.size ≤ i) : listF s (f + 1) i fr true acc = none := by
  simp only [listF]; rw [if_neg (by omega)]; rfl
theorem listF_end {s : ByteArray} {f i fr : Nat} {acc : List ByteArray} (h : s.size ≤ i) : listF s (f + 1) i fr false acc = some (addT acc (trimS (s.extract fr i))) := by
  simp only [listF]; rw [if_neg (by omega)]; rfl

/-- The parts of a list. -/
def listL (s : ByteArray) : Option (List ByteArray) := listF s (s.size + 1) 0 0 false []
def listO (s : ByteArray) : Option (List ByteArray) := if plainB s.data.toList = true ∧ s.size ≤ 300 then listL s else none

/-- What spec.l3List answers: parts and true; or false. -/
def Half (w : World) (B : Nat) (v : Value) (ok : Bool) : Option (List ByteArray) → Prop
  | none => ok = false
  | some l => ok = true ∧ textsIn w B v l
/-- What is answered: the parts, in memory of the call's own, and true; or nil and false. -/
def Told (w : World) (B : Nat) (e : Ending) : Option (List ByteArray) → Prop
  | none => e = .returned (.tuple #[.slice none 0 0, .bool false])
  | some l => ∃ v, e = .returned (.tuple #[v, .bool true]) ∧ textsIn w B v l

theorem empty_cmp {T : ByteArray} (h : T.size = 0) : (T.toList == []) = true := by
  have e : T.toList = T.data.toList := by simp [ByteArray.toList_eq]
  rw [e, empty_of h]; rfl
theorem some_cmp {T : ByteArray} (h : T.size ≠ 0) : (T.toList == []) = false := by
  have e : T.toList = T.data.toList := by simp [ByteArray.toList_eq]
  rw [e]
  have := len_list T
  cases hT : T.data.toList with
  | nil => rw [hT] at this; simp at this; omega
  | cons => rfl

set_option maxHeartbeats 1600000 in
theorem l3List_any (s : ByteArray) (w : World) (hs : s.size ≤ 2000000) :
    Calls Tryz.prog 77 #[.string s] w fun e w' => (∃ v ok, e = .returned (.tuple #[v, .bool ok]) ∧ Half w' w.heap.size v ok (listL s)) ∧ Below w.heap.size w w' := by
  have HL : Hid (∀ a b, Calls Tryz.prog 107 #[.string (s.extract a b)] w fun e w' => e = .returned (.string (trimS (s.extract a b))) ∧ w' = w) := fun a b => l3Trim_any _ w (by rw [ByteArray.size_extract]; omega)
  have HT : Hid (∀ (a b : Nat) (wr : World), Calls Tryz.prog 107 #[.string (s.extract a b)] wr fun e w' => e = .returned (.string (trimS (s.extract a b))) ∧ w' = wr) := fun a b wr => l3Trim_any _ wr (by rw [ByteArray.size_extract]; omega)
  clear HL
  go_enter Tryz.func77, Tryz.ntmps77
  go_wp2
  go_loopw [4, 5, 6, 7] (fun v fr op i wr => ∃ (k m f : Nat) (ob : Bool) (acc : List ByteArray), k ≤ s.size + 1 ∧ m ≤ k ∧ s.size + 1 ≤ k + f ∧ acc.length ≤ k ∧ i = .int .i64 k ∧ fr = .int .i64 m ∧ op = .bool ob ∧ textsIn wr w.heap.size v acc ∧ Below w.heap.size w wr ∧ Hid ((k ≤ s.size → listL s = listF s f k m ob acc) ∧ (k = s.size + 1 → listL s = if ob = true then none else some acc)))
    (fun _ _ _ i _ => s.size + 2 - (intOf i).toNat)
  case atStart => exact ⟨0, 0, s.size + 1, false, [], by omega, by omega, by omega, by simp, rfl, rfl, rfl, World.ownsRow_nil _ _ _ _, Below.refl _ _, fun _ => rfl, fun h => absurd h (by omega)⟩
  case round =>
    obtain ⟨k, m, f, ob, acc, hk, hm, hf, hacc, rfl, rfl, rfl, hown, hbel, HD⟩ := hrel
    have hB := hbel.size
    by_cases hend : k = s.size + 1
    · have HR := HD.out.2 hend
      have HR' : Hid (Half wr w.heap.size u4 (!ob) (listL s)) := by
        show Half wr w.heap.size u4 (!ob) (listL s)
        rw [HR]
        cases ob
        · exact ⟨rfl, hown⟩
        · rfl
      subst hend
      clear HR HD HT
      go_wp2_with fail
      go_ret2
      exact ⟨⟨_, _, rfl, HR'.out⟩, hbel⟩
    have HD1 : Hid (listL s = listF s f k m ob acc) := HD.out.1 (by omega)
    clear HD
    rename Hid (listL s = listF s f k m ob acc) => HD
    by_cases hz : k = s.size
    · obtain ⟨f', rfl⟩ : ∃ f', f = f' + 1 := ⟨f - 1, by omega⟩
      subst hz

      by_cases hx : (trimS (s.extract m s.size)).size = 0
      · have hc1 := empty_cmp hx
        have HD' : Hid ((s.size + 1 ≤ s.size → listL s = listF s f' (s.size + 1) (s.size + 1) ob (acc)) ∧ (s.size + 1 = s.size + 1 → listL s = if ob = true then none else some (acc))) := by
          refine ⟨fun h => absurd h (by omega), fun _ => ?_⟩; rw [HD.out]; cases ob <;> simp only [listF_end (show s.size ≤ s.size by omega), listF_open (show s.size ≤ s.size by omega), Bool.false_eq_true, if_false, if_true]; unfold addT; rw [if_pos hx]
        have HTk := HT.out m s.size
        clear HD hx
        generalize trimS (s.extract m s.size) = T at HTk hc1
        go_wp2_with (go_at_call 107; refine (HTk _).mono ?_; rintro e w' ⟨rfl, hw⟩; obtain rfl := hw.symm)
        go_roundw
        case rel => exact ⟨s.size + 1, s.size + 1, f', ob, acc, by omega, by omega, by omega, by omega, by go_num, by go_num, rfl, hown, hbel, ⟨HD'.out.1, fun _ => HD'.out.2 trivial⟩⟩
        case measure => simp [intOf]
      · have hc1 := some_cmp hx
        have HD' : Hid ((s.size + 1 ≤ s.size → listL s = listF s f' (s.size + 1) (s.size + 1) ob (acc ++ [trimS (s.extract m s.size)])) ∧ (s.size + 1 = s.size + 1 → listL s = if ob = true then none else some (acc ++ [trimS (s.extract m s.size)]))) := by
          refine ⟨fun h => absurd h (by omega), fun _ => ?_⟩; rw [HD.out]; cases ob <;> simp only [listF_end (show s.size ≤ s.size by omega), listF_open (show s.size ≤ s.size by omega), Bool.false_eq_true, if_false, if_true]; unfold addT; rw [if_neg hx]
        have HTk := HT.out m s.size
        clear HD hx
        generalize trimS (s.extract m s.size) = T at HTk hc1 HD'
        go_wp2_with (first
          | (go_at_call 107; refine (HTk _).mono ?_; rintro e w' ⟨rfl, hw⟩; obtain rfl := hw.symm)
          | (at_builtin; refine wpList_append_text wr rfl _ _ rfl w.heap.size _ acc (by rfl) hown _ _ rfl ?q3 hB w.heap.size (Nat.le_refl _) w hbel ?_))
        case q3 => omega
        intro v' w1 hown' hbel'
        clear hown hbel hB
        go_wp2
        go_roundw
        case rel => exact ⟨s.size + 1, s.size + 1, f', ob, _, by omega, by omega, by omega, by simp; omega, by go_num, by go_num, rfl, hown', hbel', ⟨HD'.out.1, fun _ => HD'.out.2 trivial⟩⟩
        case measure => simp [intOf]
    · have hlt : k < s.size := by omega
      obtain ⟨f', rfl⟩ : ∃ f', f = f' + 1 := ⟨f - 1, by omega⟩
      have hkk : ((k : Int) == (s.size : Int)) = false := by rw [beq_eq_false_iff_ne]; omega
      have e0 : at0 s k = s[k] := at_list s k hlt
      by_cases h44 : (s[k].toNat : Int) = 44
      · have k44 : ((s[k].toNat : Int) == 44) = true := by simpa using h44
        cases ob
        · have k92 : ((s[k].toNat : Int) == 92) = false := by simp; omega
          obtain ⟨ob, hob⟩ : ∃ ob, ob = false := ⟨_, rfl⟩

          by_cases hx : (trimS (s.extract m k)).size = 0
          · have hc1 := empty_cmp hx
            have HD' : Hid ((k + 1 ≤ s.size → listL s = listF s f' (k + 1) (k + 1) false (acc)) ∧ (k + 1 = s.size + 1 → listL s = if false = true then none else some (acc))) := by
              refine ⟨fun _ => ?_, fun h => absurd h (by omega)⟩; rw [HD.out, listF_comma hlt (by rw [e0]; omega)]; unfold addT; rw [if_pos hx]
            have HTk := HT.out m k
            clear HD hx
            generalize trimS (s.extract m k) = T at HTk hc1
            go_wp2_with (go_at_call 107; refine (HTk _).mono ?_; rintro e w' ⟨rfl, hw⟩; obtain rfl := hw.symm)
            go_roundw
            case rel => exact ⟨k + 1, k + 1, f', false, acc, by omega, by omega, by omega, by omega, by go_num, by go_num, rfl, hown, hbel, HD'⟩
            case measure => simp [intOf]; omega
          · have hc1 := some_cmp hx
            have HD' : Hid ((k + 1 ≤ s.size → listL s = listF s f' (k + 1) (k + 1) false (acc ++ [trimS (s.extract m k)])) ∧ (k + 1 = s.size + 1 → listL s = if false = true then none else some (acc ++ [trimS (s.extract m k)]))) := by
              refine ⟨fun _ => ?_, fun h => absurd h (by omega)⟩; rw [HD.out, listF_comma hlt (by rw [e0]; omega)]; unfold addT; rw [if_neg hx]
            have HTk := HT.out m k
            clear HD hx
            generalize trimS (s.extract m k) = T at HTk hc1 HD'
            go_wp2_with (first
              | (go_at_call 107; refine (HTk _).mono ?_; rintro e w' ⟨rfl, hw⟩; obtain rfl := hw.symm)
              | (at_builtin; refine wpList_append_text wr rfl _ _ rfl w.heap.size _ acc (by rfl) hown _ _ rfl ?q3 hB w.heap.size (Nat.le_refl _) w hbel ?_))
            case q3 => omega
            intro v' w1 hown' hbel'
            clear hown hbel hB
            go_wp2
            go_roundw
            case rel => exact ⟨k + 1, k + 1, f', false, _, by omega, by omega, by omega, by simp; omega, by go_num, by go_num, rfl, hown', hbel', HD'⟩
            case measure => simp [intOf]; omega
        · have HD' : Hid ((k + 1 ≤ s.size → listL s = listF s f' (k + 1) m true acc) ∧ (k + 1 = s.size + 1 → listL s = if true = true then none else some acc)) := by
            refine ⟨fun _ => ?_, fun h => absurd h (by omega)⟩
            rw [HD.out, listF_one hlt (by simp) (by rw [e0]; omega) (by rw [e0]; omega)]
          have k34 : ((s[k].toNat : Int) == 34) = false := by simp; omega
          have k92 : ((s[k].toNat : Int) == 92) = false := by simp; omega
          clear HD HT e0
          go_wp2_with fail
          go_roundw
          case rel => exact ⟨k + 1, m, f', true, acc, by omega, by omega, by omega, by omega, by go_num, rfl, rfl, hown, hbel, HD'⟩
          case measure => simp [intOf]; omega
      · have k44 : ((s[k].toNat : Int) == 44) = false := by simpa using h44
        by_cases h34 : (s[k].toNat : Int) = 34
        · have k34 : ((s[k].toNat : Int) == 34) = true := by simpa using h34
          have k92 : ((s[k].toNat : Int) == 92) = false := by simp; omega
          have HD' : Hid ((k + 1 ≤ s.size → listL s = listF s f' (k + 1) m (!ob) acc) ∧ (k + 1 = s.size + 1 → listL s = if (!ob) = true then none else some acc)) := by
            refine ⟨fun _ => ?_, fun h => absurd h (by omega)⟩
            rw [HD.out, listF_quote hlt (by rw [e0]; omega)]
          clear HD HT e0
          go_wp2_with fail
          go_roundw
          case rel => exact ⟨k + 1, m, f', !ob, acc, by omega, by omega, by omega, by omega, by go_num, rfl, rfl, hown, hbel, HD'⟩
          case measure => simp [intOf]; omega
        · have k34 : ((s[k].toNat : Int) == 34) = false := by simpa using h34
          by_cases h92 : (s[k].toNat : Int) = 92
          · have k92 : ((s[k].toNat : Int) == 92) = true := by simpa using h92
            cases ob
            · have HD' : Hid ((k + 1 ≤ s.size → listL s = listF s f' (k + 1) m false acc) ∧ (k + 1 = s.size + 1 → listL s = if false = true then none else some acc)) := by
                refine ⟨fun _ => ?_, fun h => absurd h (by omega)⟩
                rw [HD.out, listF_one hlt (by rw [e0]; omega) (by rw [e0]; omega) (by simp)]
              clear HD HT e0
              go_wp2_with fail
              go_roundw
              case rel => exact ⟨k + 1, m, f', false, acc, by omega, by omega, by omega, by omega, by go_num, rfl, rfl, hown, hbel, HD'⟩
              case measure => simp [intOf]; omega
            · by_cases hq : k + 1 = s.size
              · have HR : Hid (Half wr w.heap.size (.slice none 0 0) false (listL s)) := by
                  show Half wr w.heap.size (.slice none 0 0) false (listL s)
                  rw [HD.out, listF_cut hq (by rw [e0]; omega)]; rfl
                have hq' : ((k : Int) + 1 == (s.size : Int)) = true := by simp; omega
                clear HD HT e0
                go_wp2_with fail
                go_ret2
                exact ⟨⟨_, _, rfl, HR.out⟩, hbel⟩
              · have HD' : Hid ((k + 2 ≤ s.size → listL s = listF s f' (k + 2) m true acc) ∧ (k + 2 = s.size + 1 → listL s = if true = true then none else some acc)) := by
                  refine ⟨fun _ => ?_, fun h => absurd h (by omega)⟩
                  rw [HD.out, listF_esc (by omega) (by rw [e0]; omega)]
                have hq' : ((k : Int) + 1 == (s.size : Int)) = false := by simp; omega
                clear HD HT e0
                go_wp2_with fail
                go_roundw
                case rel => exact ⟨k + 2, m, f', true, acc, by omega, by omega, by omega, by omega, by go_num, rfl, rfl, hown, hbel, HD'⟩
                case measure => simp [intOf]; omega
          · have k92 : ((s[k].toNat : Int) == 92) = false := by simpa using h92
            have HD' : Hid ((k + 1 ≤ s.size → listL s = listF s f' (k + 1) m ob acc) ∧ (k + 1 = s.size + 1 → listL s = if ob = true then none else some acc)) := by
              refine ⟨fun _ => ?_, fun h => absurd h (by omega)⟩
              rw [HD.out, listF_one hlt (by rw [e0]; omega) (by rw [e0]; omega) (by rw [e0]; omega)]
            clear HD HT e0
            go_wp2_with fail
            go_roundw
            case rel => exact ⟨k + 1, m, f', ob, acc, by omega, by omega, by omega, by omega, by go_num, rfl, rfl, hown, hbel, HD'⟩
            case measure => simp [intOf]; omega

end Go.Proofs.YtfgcgnhffljiaaaGreatDoor.Lsp

/-
  Walks: the unreserved bytes and the percents that are told: spec.l1Letter, l1Digit, l1Free, l1Percent; impl.appendPercent.
-/
import Derived.Test.YtimfcbjgoilnpaaDoorHex
import Derived.Test.YtimfcbjgoilnpaaDoorBop
import Derived.Test.YtimfcbjgoilnpaaDoorOwn
import Derived.WalkKit
import Derived.WalkLawsBesides
import Derived.WalkSpells
import Derived.Deep.QuietTactic
import Derived.BigQuiet
import Derived.Deep.RegionLaw
namespace Go.Proofs.YtimfcbjgoilnpaaDoor.Enc
open Go.RowKit
open Go.Proofs.YtimfcbjgoilnpaaDoor.Byt
open Go.Proofs.YtimfcbjgoilnpaaDoor.Hex
open Go.Proofs.YtimfcbjgoilnpaaDoor.Own

theorem isK_free (b : Int) (h0 : 0 ≤ b) (h1 : b ≤ 255) : isK b 2 = freeB b := by
  obtain ⟨n, rfl⟩ := Int.eq_ofNat_of_zero_le h0
  have all : ∀ n : Nat, n < 256 → isK (n : Int) 2 = freeB (n : Int) := by decide +kernel
  exact all n (by omega)

theorem isFree_any (b : Int) (w : World) (hT : Tab w) (h0 : 0 ≤ b) (h1 : b ≤ 255) :
    Calls Tryd.prog 63 #[.int .u8 b, .int .u8 2] w fun e w' => e = .returned (.bool (freeB b)) ∧ w' = w := by
  rw [← isK_free b h0 h1]
  exact isKind_any b 2 w hT h0 h1

theorem ret_bool {a b : Bool} (h : a = b) : Ending.returned (.bool a) = .returned (.bool b) := by rw [h]

def digs : ByteArray := ⟨#[48, 49, 50, 51, 52, 53, 54, 55, 56, 57, 65, 66, 67, 68, 69, 70]⟩

theorem pc_text (c : UInt8) : (⟨#[37]⟩ : ByteArray) ++ digs.extract (c.toNat / 16) (c.toNat / 16 + 1) ++ digs.extract (c.toNat % 16) (c.toNat % 16 + 1) = ⟨(pc c).toArray⟩ := by
  have all : ∀ n : Nat, n < 256 → (⟨#[37]⟩ : ByteArray) ++ digs.extract (n / 16) (n / 16 + 1) ++ digs.extract (n % 16) (n % 16 + 1) = ⟨#[37, hexd (n / 16), hexd (n % 16)]⟩ := by decide +kernel
  exact all c.toNat c.toNat_lt

theorem ret_str {a b : ByteArray} (h : a = b) : Ending.returned (.string a) = .returned (.string b) := by rw [h]

theorem digs_at (n : Nat) (h : n < 16) : digs[n]? = some (hexd n) := by
  have all : ∀ n : Nat, n < 16 → digs[n]? = some (hexd n) := by decide +kernel
  exact all n h

theorem index_digs (n : Nat) (h : n < 16) (wx : World) (j : Int) (hj : j = (n : Int)) :
    (Instr.index 9 (.string ⟨#[48, 49, 50, 51, 52, 53, 54, 55, 56, 57, 65, 66, 67, 68, 69, 70]⟩) (.int .u8 j)).run Tryd.prog wx = .ok (.int .u8 ((hexd n).toNat : Int)) wx := by
  subst hj
  have hd : n < digs.size := h
  have e := digs_at n h
  rw [show (⟨#[48, 49, 50, 51, 52, 53, 54, 55, 56, 57, 65, 66, 67, 68, 69, 70]⟩ : ByteArray) = digs from rfl]
  rw [run_index_string wx _ _ _ _ Tryd.underlying9, dif_pos ⟨by omega, by omega⟩]
  have e2 : digs[((n : Int)).toNat]'(by simpa using hd) = hexd n := by
    simp only [Int.toNat_natCast]
    rw [ByteArray.getElem?_lt' digs n hd] at e
    exact Option.some.inj e
  rw [e2]

/-- 'append(v, news..)' of bytes, as a step of a region that draws its order. -/
theorem step_append_bytes {ops : Array Oper} {o : Oper} {a : Act} {w : World} {K : Act → World → Prop} {Q : Exit → Act → World → Prop} {E : Prop} (hgd : o.guard = none) (s x : Operand)
    (ho : o.op = .call { callee := .builtin .append, args := #[s, x], argTypes := #[48, 48] })
    (B : Nat) (v : Value) (l : List UInt8) (hs : a.eval s = v) (hown : bytesIn w B v l)
    (ad : Addr) (m c : Nat) (news : List UInt8) (hx : a.eval x = .slice (some ad) m c) (hl : news.length = m)
    (hnews : ∀ j u, (news.map fun b => Value.int .u8 (b.toNat : Int))[j]? = some u → w.cell? (ad.add j) = some u)
    (hb : l.length + m ≤ 140737488355328) (hbase : B ≤ w.heap.size) (W : World) (hbel : Below B W w)
    (h : ∀ v' w', bytesIn w' B v' (l ++ news) → Below B W w' → K (a.put o.dst v') w') :
    if Region.wanted o (yielded ops a.tmps) = true then Oper.wp Tryd.prog o a w K Q else E := by
  have hw : Region.wanted o (yielded ops a.tmps) = true := by simp [Region.wanted, hgd]
  rw [if_pos hw]
  obtain ⟨i0, hi, hz0, hz1, hz2⟩ := info_parts info5
  refine wp_append_own w s x 48 ho B 5 i0 (.int .u8 0) 1 1 Tryd.underlying48 hi hz0 hz1 hz2 rfl (by decide) v l.length _ hs hown ad m c (news.map fun b => Value.int .u8 (b.toNat : Int)) hx (by simp [hl]) hnews (bytes_oneCell news)
    (by unfold maxLen; omega) (by omega) hbase ?_
  intro v' w' hown' hg _
  refine h v' w' ?_ (hbel.grown hg hbase (fun k hk => (World.ownsRow.lt hown k hk).1))
  unfold bytesIn
  rw [List.length_append, List.map_append, hl]
  exact hown'

theorem and15 (c : UInt8) : bits BinOp.and IntKind.u8 (c.toNat : Int) 15 = (c.toNat : Int) % 16 := by
  have all : ∀ n : Nat, n < 256 → bits BinOp.and IntKind.u8 (n : Int) 15 = (n : Int) % 16 := by decide +kernel
  exact all c.toNat c.toNat_lt

theorem cells_new (w : World) (l : List UInt8) : ∀ j u, (l.map fun b => Value.int .u8 (b.toNat : Int))[j]? = some u → (w.alloc (.cells (l.map fun b => Value.int .u8 (b.toNat : Int)).toArray 5)).cell? ((⟨w.heap.size, 0, none⟩ : Addr).add j) = some u := by
  intro j u hu
  rw [Addr.add_lit, Nat.zero_add]
  rw [World.cell?_alloc_mark]
  simpa using hu

end Go.Proofs.YtimfcbjgoilnpaaDoor.Enc

/-
  A frame of 131 places whose first eight are told. No function of the program.
-/
import Derived.WalkKit
namespace Go.Proofs.YtlgjgdpalflmfaaDoor.Frm
open Go

theorem arr_range (arr : Array Value) (n : Nat) (h : arr.size = n) : arr = ((List.range n).map fun i => arr.getD i undef).toArray := by
  subst h
  apply Array.ext
  · simp
  · intro i h1 h2
    simp [h1]
set_option maxRecDepth 100000 in
theorem range131 (f : Nat → Value) : (List.range 131).map f = [f 0, f 1, f 2, f 3, f 4, f 5, f 6, f 7, f 8, f 9, f 10, f 11, f 12, f 13, f 14, f 15, f 16, f 17, f 18, f 19, f 20, f 21, f 22, f 23, f 24, f 25, f 26, f 27, f 28, f 29, f 30, f 31, f 32, f 33, f 34, f 35, f 36, f 37, f 38, f 39, f 40, f 41, f 42, f 43, f 44, f 45, f 46, f 47, f 48, f 49, f 50, f 51, f 52, f 53, f 54, f 55, f 56, f 57, f 58, f 59, f 60, f 61, f 62, f 63, f 64, f 65, f 66, f 67, f 68, f 69, f 70, f 71, f 72, f 73, f 74, f 75, f 76, f 77, f 78, f 79, f 80, f 81, f 82, f 83, f 84, f 85, f 86, f 87, f 88, f 89, f 90, f 91, f 92, f 93, f 94, f 95, f 96, f 97, f 98, f 99, f 100, f 101, f 102, f 103, f 104, f 105, f 106, f 107, f 108, f 109, f 110, f 111, f 112, f 113, f 114, f 115, f 116, f 117, f 118, f 119, f 120, f 121, f 122, f 123, f 124, f 125, f 126, f 127, f 128, f 129, f 130] := rfl
set_option maxRecDepth 100000 in
theorem arr131 (arr : Array Value) (h : arr.size = 131) : arr = #[arr.getD 0 undef, arr.getD 1 undef, arr.getD 2 undef, arr.getD 3 undef, arr.getD 4 undef, arr.getD 5 undef, arr.getD 6 undef, arr.getD 7 undef, arr.getD 8 undef, arr.getD 9 undef, arr.getD 10 undef, arr.getD 11 undef, arr.getD 12 undef, arr.getD 13 undef, arr.getD 14 undef, arr.getD 15 undef, arr.getD 16 undef, arr.getD 17 undef, arr.getD 18 undef, arr.getD 19 undef, arr.getD 20 undef, arr.getD 21 undef, arr.getD 22 undef, arr.getD 23 undef, arr.getD 24 undef, arr.getD 25 undef, arr.getD 26 undef, arr.getD 27 undef, arr.getD 28 undef, arr.getD 29 undef, arr.getD 30 undef, arr.getD 31 undef, arr.getD 32 undef, arr.getD 33 undef, arr.getD 34 undef, arr.getD 35 undef, arr.getD 36 undef, arr.getD 37 undef, arr.getD 38 undef, arr.getD 39 undef, arr.getD 40 undef, arr.getD 41 undef, arr.getD 42 undef, arr.getD 43 undef, arr.getD 44 undef, arr.getD 45 undef, arr.getD 46 undef, arr.getD 47 undef, arr.getD 48 undef, arr.getD 49 undef, arr.getD 50 undef, arr.getD 51 undef, arr.getD 52 undef, arr.getD 53 undef, arr.getD 54 undef, arr.getD 55 undef, arr.getD 56 undef, arr.getD 57 undef, arr.getD 58 undef, arr.getD 59 undef, arr.getD 60 undef, arr.getD 61 undef, arr.getD 62 undef, arr.getD 63 undef, arr.getD 64 undef, arr.getD 65 undef, arr.getD 66 undef, arr.getD 67 undef, arr.getD 68 undef, arr.getD 69 undef, arr.getD 70 undef, arr.getD 71 undef, arr.getD 72 undef, arr.getD 73 undef, arr.getD 74 undef, arr.getD 75 undef, arr.getD 76 undef, arr.getD 77 undef, arr.getD 78 undef, arr.getD 79 undef, arr.getD 80 undef, arr.getD 81 undef, arr.getD 82 undef, arr.getD 83 undef, arr.getD 84 undef, arr.getD 85 undef, arr.getD 86 undef, arr.getD 87 undef, arr.getD 88 undef, arr.getD 89 undef, arr.getD 90 undef, arr.getD 91 undef, arr.getD 92 undef, arr.getD 93 undef, arr.getD 94 undef, arr.getD 95 undef, arr.getD 96 undef, arr.getD 97 undef, arr.getD 98 undef, arr.getD 99 undef, arr.getD 100 undef, arr.getD 101 undef, arr.getD 102 undef, arr.getD 103 undef, arr.getD 104 undef, arr.getD 105 undef, arr.getD 106 undef, arr.getD 107 undef, arr.getD 108 undef, arr.getD 109 undef, arr.getD 110 undef, arr.getD 111 undef, arr.getD 112 undef, arr.getD 113 undef, arr.getD 114 undef, arr.getD 115 undef, arr.getD 116 undef, arr.getD 117 undef, arr.getD 118 undef, arr.getD 119 undef, arr.getD 120 undef, arr.getD 121 undef, arr.getD 122 undef, arr.getD 123 undef, arr.getD 124 undef, arr.getD 125 undef, arr.getD 126 undef, arr.getD 127 undef, arr.getD 128 undef, arr.getD 129 undef, arr.getD 130 undef] := by
  have e := arr_range arr 131 h
  rw [range131 fun i => arr.getD i undef] at e
  exact e

/-- The frame's first eight places. -/
def Fr (a : Act) (v0 v1 v2 v3 v4 v5 v6 v7 : Value) : Prop := ∃ us : Nat → Value, a = { tmps := #[v0, v1, v2, v3, v4, v5, v6, v7, us 8, us 9, us 10, us 11, us 12, us 13, us 14, us 15, us 16, us 17, us 18, us 19, us 20, us 21, us 22, us 23, us 24, us 25, us 26, us 27, us 28, us 29, us 30, us 31, us 32, us 33, us 34, us 35, us 36, us 37, us 38, us 39, us 40, us 41, us 42, us 43, us 44, us 45, us 46, us 47, us 48, us 49, us 50, us 51, us 52, us 53, us 54, us 55, us 56, us 57, us 58, us 59, us 60, us 61, us 62, us 63, us 64, us 65, us 66, us 67, us 68, us 69, us 70, us 71, us 72, us 73, us 74, us 75, us 76, us 77, us 78, us 79, us 80, us 81, us 82, us 83, us 84, us 85, us 86, us 87, us 88, us 89, us 90, us 91, us 92, us 93, us 94, us 95, us 96, us 97, us 98, us 99, us 100, us 101, us 102, us 103, us 104, us 105, us 106, us 107, us 108, us 109, us 110, us 111, us 112, us 113, us 114, us 115, us 116, us 117, us 118, us 119, us 120, us 121, us 122, us 123, us 124, us 125, us 126, us 127, us 128, us 129, us 130], defers := [] }

set_option maxRecDepth 100000 in
theorem Fr.mk {a : Act} {v0 v1 v2 v3 v4 v5 v6 v7 : Value} (hs : a.tmps.size = 131) (hd : a.defers = []) (h0 : a.tmps.getD 0 undef = v0) (h1 : a.tmps.getD 1 undef = v1) (h2 : a.tmps.getD 2 undef = v2) (h3 : a.tmps.getD 3 undef = v3) (h4 : a.tmps.getD 4 undef = v4) (h5 : a.tmps.getD 5 undef = v5) (h6 : a.tmps.getD 6 undef = v6) (h7 : a.tmps.getD 7 undef = v7) : Fr a v0 v1 v2 v3 v4 v5 v6 v7 := by
  subst h0 h1 h2 h3 h4 h5 h6 h7
  refine ⟨fun i => a.tmps.getD i undef, ?_⟩
  obtain ⟨t, d⟩ := a
  simp only at hd hs
  subst hd
  exact congrArg (fun t => ({ tmps := t, defers := [] } : Act)) (arr131 t hs)

end Go.Proofs.YtlgjgdpalflmfaaDoor.Frm

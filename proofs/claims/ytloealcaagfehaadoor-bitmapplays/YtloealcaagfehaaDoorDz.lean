/- plays: one step on both sides. -/
import Derived.Test.YtloealcaagfehaaDoorDm
namespace Go.Proofs.YtloealcaagfehaaDoor
section
open Go.RowKit

section
variable {w : World} {B D : Nat} {σ : Nat → Option Sq}
theorem Went.behind {w1 w2 : World} (h : Below B w w1) (h2 : Went w1 w2 B D) : Went w w2 B D := by
  obtain ⟨σ', a, b, c⟩ := h2
  exact ⟨σ', a, b, h.trans c⟩
set_option maxRecDepth 100000 in
theorem plays_1 (h : Dk w B D σ) (on wi i j : Int) (s : ByteArray) (HF : ∀ u, Dk u B D σ → Below w.heap.size w u → Calls Tryd.prog 16 #[.pointer (some ⟨D, 0, none⟩), .agg #[.int .i64 1, .int .i64 on, .int .i64 wi, .int .i64 i, .int .i64 j, .string s]] u fun e w' => e = .returned (.bool true) ∧ Went u w' B D) :
    Calls Tryd.prog 8 #[.pointer (some ⟨D, 0, none⟩), .agg #[.int .i64 1, .int .i64 on, .int .i64 wi, .int .i64 i, .int .i64 j, .string s]] w fun e w' => e = .returned (.bool true) ∧ Went w w' B D := by
  have hbel := (Below.refl w.heap.size w).alloc (Nat.le_refl _) (.cells #[.int .i64 1, .int .i64 on, .int .i64 wi, .int .i64 i, .int .i64 j, .string s] 32)
  have HG := hide (HF _ (h.keep hbel) hbel)
  have HB := hide (hbel.mono (Nat.le_trans h.ge (Nat.le_of_lt h.dlt)))
  clear h HF hbel
  go_enter Tryd.func8, Tryd.ntmps8
  go_wp2_with fail
  refine (unhide HG).mono ?_
  rintro e w1 ⟨rfl, hw⟩
  have HW := hide hw
  clear hw
  go_wp2
  go_ret
  exact ⟨rfl, Went.behind (unhide HB) (unhide HW)⟩
set_option maxRecDepth 100000 in
theorem plays_2 (h : Dk w B D σ) (on wi i j : Int) (s : ByteArray) (HF : ∀ u, Dk u B D σ → Below w.heap.size w u → Calls Tryd.prog 16 #[.pointer (some ⟨D, 0, none⟩), .agg #[.int .i64 2, .int .i64 on, .int .i64 wi, .int .i64 i, .int .i64 j, .string s]] u fun e w' => e = .returned (.bool true) ∧ Went u w' B D) :
    Calls Tryd.prog 8 #[.pointer (some ⟨D, 0, none⟩), .agg #[.int .i64 2, .int .i64 on, .int .i64 wi, .int .i64 i, .int .i64 j, .string s]] w fun e w' => e = .returned (.bool true) ∧ Went w w' B D := by
  have hbel := (Below.refl w.heap.size w).alloc (Nat.le_refl _) (.cells #[.int .i64 2, .int .i64 on, .int .i64 wi, .int .i64 i, .int .i64 j, .string s] 32)
  have HG := hide (HF _ (h.keep hbel) hbel)
  have HB := hide (hbel.mono (Nat.le_trans h.ge (Nat.le_of_lt h.dlt)))
  clear h HF hbel
  go_enter Tryd.func8, Tryd.ntmps8
  go_wp2_with fail
  refine (unhide HG).mono ?_
  rintro e w1 ⟨rfl, hw⟩
  have HW := hide hw
  clear hw
  go_wp2
  go_ret
  exact ⟨rfl, Went.behind (unhide HB) (unhide HW)⟩
set_option maxRecDepth 100000 in
theorem plays_3 (h : Dk w B D σ) (on wi i j : Int) (s : ByteArray) (HF : ∀ u, Dk u B D σ → Below w.heap.size w u → Calls Tryd.prog 17 #[.pointer (some ⟨D, 0, none⟩), .agg #[.int .i64 3, .int .i64 on, .int .i64 wi, .int .i64 i, .int .i64 j, .string s]] u fun e w' => e = .returned (.bool true) ∧ Went u w' B D) :
    Calls Tryd.prog 8 #[.pointer (some ⟨D, 0, none⟩), .agg #[.int .i64 3, .int .i64 on, .int .i64 wi, .int .i64 i, .int .i64 j, .string s]] w fun e w' => e = .returned (.bool true) ∧ Went w w' B D := by
  have hbel := (Below.refl w.heap.size w).alloc (Nat.le_refl _) (.cells #[.int .i64 3, .int .i64 on, .int .i64 wi, .int .i64 i, .int .i64 j, .string s] 32)
  have HG := hide (HF _ (h.keep hbel) hbel)
  have HB := hide (hbel.mono (Nat.le_trans h.ge (Nat.le_of_lt h.dlt)))
  clear h HF hbel
  go_enter Tryd.func8, Tryd.ntmps8
  go_wp2_with fail
  refine (unhide HG).mono ?_
  rintro e w1 ⟨rfl, hw⟩
  have HW := hide hw
  clear hw
  go_wp2
  go_ret
  exact ⟨rfl, Went.behind (unhide HB) (unhide HW)⟩
set_option maxRecDepth 100000 in
theorem plays_4 (h : Dk w B D σ) (on wi i j : Int) (s : ByteArray) (HF : ∀ u, Dk u B D σ → Below w.heap.size w u → Calls Tryd.prog 17 #[.pointer (some ⟨D, 0, none⟩), .agg #[.int .i64 4, .int .i64 on, .int .i64 wi, .int .i64 i, .int .i64 j, .string s]] u fun e w' => e = .returned (.bool true) ∧ Went u w' B D) :
    Calls Tryd.prog 8 #[.pointer (some ⟨D, 0, none⟩), .agg #[.int .i64 4, .int .i64 on, .int .i64 wi, .int .i64 i, .int .i64 j, .string s]] w fun e w' => e = .returned (.bool true) ∧ Went w w' B D := by
  have hbel := (Below.refl w.heap.size w).alloc (Nat.le_refl _) (.cells #[.int .i64 4, .int .i64 on, .int .i64 wi, .int .i64 i, .int .i64 j, .string s] 32)
  have HG := hide (HF _ (h.keep hbel) hbel)
  have HB := hide (hbel.mono (Nat.le_trans h.ge (Nat.le_of_lt h.dlt)))
  clear h HF hbel
  go_enter Tryd.func8, Tryd.ntmps8
  go_wp2_with fail
  refine (unhide HG).mono ?_
  rintro e w1 ⟨rfl, hw⟩
  have HW := hide hw
  clear hw
  go_wp2
  go_ret
  exact ⟨rfl, Went.behind (unhide HB) (unhide HW)⟩
set_option maxRecDepth 100000 in
theorem plays_5 (h : Dk w B D σ) (on wi i j : Int) (s : ByteArray) (HF : ∀ u, Dk u B D σ → Below w.heap.size w u → Calls Tryd.prog 38 #[.pointer (some ⟨D, 0, none⟩), .agg #[.int .i64 5, .int .i64 on, .int .i64 wi, .int .i64 i, .int .i64 j, .string s]] u fun e w' => e = .returned (.bool true) ∧ Went u w' B D) :
    Calls Tryd.prog 8 #[.pointer (some ⟨D, 0, none⟩), .agg #[.int .i64 5, .int .i64 on, .int .i64 wi, .int .i64 i, .int .i64 j, .string s]] w fun e w' => e = .returned (.bool true) ∧ Went w w' B D := by
  have hbel := (Below.refl w.heap.size w).alloc (Nat.le_refl _) (.cells #[.int .i64 5, .int .i64 on, .int .i64 wi, .int .i64 i, .int .i64 j, .string s] 32)
  have HG := hide (HF _ (h.keep hbel) hbel)
  have HB := hide (hbel.mono (Nat.le_trans h.ge (Nat.le_of_lt h.dlt)))
  clear h HF hbel
  go_enter Tryd.func8, Tryd.ntmps8
  go_wp2_with fail
  refine (unhide HG).mono ?_
  rintro e w1 ⟨rfl, hw⟩
  have HW := hide hw
  clear hw
  go_wp2
  go_ret
  exact ⟨rfl, Went.behind (unhide HB) (unhide HW)⟩
set_option maxRecDepth 100000 in
theorem plays_6 (h : Dk w B D σ) (on wi i j : Int) (s : ByteArray) (HF : ∀ u, Dk u B D σ → Below w.heap.size w u → Calls Tryd.prog 38 #[.pointer (some ⟨D, 0, none⟩), .agg #[.int .i64 6, .int .i64 on, .int .i64 wi, .int .i64 i, .int .i64 j, .string s]] u fun e w' => e = .returned (.bool true) ∧ Went u w' B D) :
    Calls Tryd.prog 8 #[.pointer (some ⟨D, 0, none⟩), .agg #[.int .i64 6, .int .i64 on, .int .i64 wi, .int .i64 i, .int .i64 j, .string s]] w fun e w' => e = .returned (.bool true) ∧ Went w w' B D := by
  have hbel := (Below.refl w.heap.size w).alloc (Nat.le_refl _) (.cells #[.int .i64 6, .int .i64 on, .int .i64 wi, .int .i64 i, .int .i64 j, .string s] 32)
  have HG := hide (HF _ (h.keep hbel) hbel)
  have HB := hide (hbel.mono (Nat.le_trans h.ge (Nat.le_of_lt h.dlt)))
  clear h HF hbel
  go_enter Tryd.func8, Tryd.ntmps8
  go_wp2_with fail
  refine (unhide HG).mono ?_
  rintro e w1 ⟨rfl, hw⟩
  have HW := hide hw
  clear hw
  go_wp2
  go_ret
  exact ⟨rfl, Went.behind (unhide HB) (unhide HW)⟩
set_option maxRecDepth 100000 in
theorem plays_7 (h : Dk w B D σ) (on wi i j : Int) (s : ByteArray) (HF : ∀ u, Dk u B D σ → Below w.heap.size w u → Calls Tryd.prog 38 #[.pointer (some ⟨D, 0, none⟩), .agg #[.int .i64 7, .int .i64 on, .int .i64 wi, .int .i64 i, .int .i64 j, .string s]] u fun e w' => e = .returned (.bool true) ∧ Went u w' B D) :
    Calls Tryd.prog 8 #[.pointer (some ⟨D, 0, none⟩), .agg #[.int .i64 7, .int .i64 on, .int .i64 wi, .int .i64 i, .int .i64 j, .string s]] w fun e w' => e = .returned (.bool true) ∧ Went w w' B D := by
  have hbel := (Below.refl w.heap.size w).alloc (Nat.le_refl _) (.cells #[.int .i64 7, .int .i64 on, .int .i64 wi, .int .i64 i, .int .i64 j, .string s] 32)
  have HG := hide (HF _ (h.keep hbel) hbel)
  have HB := hide (hbel.mono (Nat.le_trans h.ge (Nat.le_of_lt h.dlt)))
  clear h HF hbel
  go_enter Tryd.func8, Tryd.ntmps8
  go_wp2_with fail
  refine (unhide HG).mono ?_
  rintro e w1 ⟨rfl, hw⟩
  have HW := hide hw
  clear hw
  go_wp2
  go_ret
  exact ⟨rfl, Went.behind (unhide HB) (unhide HW)⟩
set_option maxRecDepth 100000 in
theorem plays_8 (h : Dk w B D σ) (on wi i j : Int) (s : ByteArray) (HF : ∀ u, Dk u B D σ → Below w.heap.size w u → Calls Tryd.prog 38 #[.pointer (some ⟨D, 0, none⟩), .agg #[.int .i64 8, .int .i64 on, .int .i64 wi, .int .i64 i, .int .i64 j, .string s]] u fun e w' => e = .returned (.bool true) ∧ Went u w' B D) :
    Calls Tryd.prog 8 #[.pointer (some ⟨D, 0, none⟩), .agg #[.int .i64 8, .int .i64 on, .int .i64 wi, .int .i64 i, .int .i64 j, .string s]] w fun e w' => e = .returned (.bool true) ∧ Went w w' B D := by
  have hbel := (Below.refl w.heap.size w).alloc (Nat.le_refl _) (.cells #[.int .i64 8, .int .i64 on, .int .i64 wi, .int .i64 i, .int .i64 j, .string s] 32)
  have HG := hide (HF _ (h.keep hbel) hbel)
  have HB := hide (hbel.mono (Nat.le_trans h.ge (Nat.le_of_lt h.dlt)))
  clear h HF hbel
  go_enter Tryd.func8, Tryd.ntmps8
  go_wp2_with fail
  refine (unhide HG).mono ?_
  rintro e w1 ⟨rfl, hw⟩
  have HW := hide hw
  clear hw
  go_wp2
  go_ret
  exact ⟨rfl, Went.behind (unhide HB) (unhide HW)⟩
set_option maxRecDepth 100000 in
theorem plays_9 (h : Dk w B D σ) (on wi i j : Int) (s : ByteArray) (HF : ∀ u, Dk u B D σ → Below w.heap.size w u → Calls Tryd.prog 17 #[.pointer (some ⟨D, 0, none⟩), .agg #[.int .i64 9, .int .i64 on, .int .i64 wi, .int .i64 i, .int .i64 j, .string s]] u fun e w' => e = .returned (.bool true) ∧ Went u w' B D) :
    Calls Tryd.prog 8 #[.pointer (some ⟨D, 0, none⟩), .agg #[.int .i64 9, .int .i64 on, .int .i64 wi, .int .i64 i, .int .i64 j, .string s]] w fun e w' => e = .returned (.bool true) ∧ Went w w' B D := by
  have hbel := (Below.refl w.heap.size w).alloc (Nat.le_refl _) (.cells #[.int .i64 9, .int .i64 on, .int .i64 wi, .int .i64 i, .int .i64 j, .string s] 32)
  have HG := hide (HF _ (h.keep hbel) hbel)
  have HB := hide (hbel.mono (Nat.le_trans h.ge (Nat.le_of_lt h.dlt)))
  clear h HF hbel
  go_enter Tryd.func8, Tryd.ntmps8
  go_wp2_with fail
  refine (unhide HG).mono ?_
  rintro e w1 ⟨rfl, hw⟩
  have HW := hide hw
  clear hw
  go_wp2
  go_ret
  exact ⟨rfl, Went.behind (unhide HB) (unhide HW)⟩
set_option maxRecDepth 100000 in
theorem plays_10 (h : Dk w B D σ) (on wi i j : Int) (s : ByteArray) (HF : ∀ u, Dk u B D σ → Below w.heap.size w u → Calls Tryd.prog 17 #[.pointer (some ⟨D, 0, none⟩), .agg #[.int .i64 10, .int .i64 on, .int .i64 wi, .int .i64 i, .int .i64 j, .string s]] u fun e w' => e = .returned (.bool true) ∧ Went u w' B D) :
    Calls Tryd.prog 8 #[.pointer (some ⟨D, 0, none⟩), .agg #[.int .i64 10, .int .i64 on, .int .i64 wi, .int .i64 i, .int .i64 j, .string s]] w fun e w' => e = .returned (.bool true) ∧ Went w w' B D := by
  have hbel := (Below.refl w.heap.size w).alloc (Nat.le_refl _) (.cells #[.int .i64 10, .int .i64 on, .int .i64 wi, .int .i64 i, .int .i64 j, .string s] 32)
  have HG := hide (HF _ (h.keep hbel) hbel)
  have HB := hide (hbel.mono (Nat.le_trans h.ge (Nat.le_of_lt h.dlt)))
  clear h HF hbel
  go_enter Tryd.func8, Tryd.ntmps8
  go_wp2_with fail
  refine (unhide HG).mono ?_
  rintro e w1 ⟨rfl, hw⟩
  have HW := hide hw
  clear hw
  go_wp2
  go_ret
  exact ⟨rfl, Went.behind (unhide HB) (unhide HW)⟩
set_option maxRecDepth 100000 in
theorem plays_11 (h : Dk w B D σ) (on wi i j : Int) (s : ByteArray) (HF : ∀ u, Dk u B D σ → Below w.heap.size w u → Calls Tryd.prog 17 #[.pointer (some ⟨D, 0, none⟩), .agg #[.int .i64 11, .int .i64 on, .int .i64 wi, .int .i64 i, .int .i64 j, .string s]] u fun e w' => e = .returned (.bool true) ∧ Went u w' B D) :
    Calls Tryd.prog 8 #[.pointer (some ⟨D, 0, none⟩), .agg #[.int .i64 11, .int .i64 on, .int .i64 wi, .int .i64 i, .int .i64 j, .string s]] w fun e w' => e = .returned (.bool true) ∧ Went w w' B D := by
  have hbel := (Below.refl w.heap.size w).alloc (Nat.le_refl _) (.cells #[.int .i64 11, .int .i64 on, .int .i64 wi, .int .i64 i, .int .i64 j, .string s] 32)
  have HG := hide (HF _ (h.keep hbel) hbel)
  have HB := hide (hbel.mono (Nat.le_trans h.ge (Nat.le_of_lt h.dlt)))
  clear h HF hbel
  go_enter Tryd.func8, Tryd.ntmps8
  go_wp2_with fail
  refine (unhide HG).mono ?_
  rintro e w1 ⟨rfl, hw⟩
  have HW := hide hw
  clear hw
  go_wp2
  go_ret
  exact ⟨rfl, Went.behind (unhide HB) (unhide HW)⟩
set_option maxRecDepth 100000 in
theorem plays_12 (h : Dk w B D σ) (on wi i j : Int) (s : ByteArray) (HF : ∀ u, Dk u B D σ → Below w.heap.size w u → Calls Tryd.prog 17 #[.pointer (some ⟨D, 0, none⟩), .agg #[.int .i64 12, .int .i64 on, .int .i64 wi, .int .i64 i, .int .i64 j, .string s]] u fun e w' => e = .returned (.bool true) ∧ Went u w' B D) :
    Calls Tryd.prog 8 #[.pointer (some ⟨D, 0, none⟩), .agg #[.int .i64 12, .int .i64 on, .int .i64 wi, .int .i64 i, .int .i64 j, .string s]] w fun e w' => e = .returned (.bool true) ∧ Went w w' B D := by
  have hbel := (Below.refl w.heap.size w).alloc (Nat.le_refl _) (.cells #[.int .i64 12, .int .i64 on, .int .i64 wi, .int .i64 i, .int .i64 j, .string s] 32)
  have HG := hide (HF _ (h.keep hbel) hbel)
  have HB := hide (hbel.mono (Nat.le_trans h.ge (Nat.le_of_lt h.dlt)))
  clear h HF hbel
  go_enter Tryd.func8, Tryd.ntmps8
  go_wp2_with fail
  refine (unhide HG).mono ?_
  rintro e w1 ⟨rfl, hw⟩
  have HW := hide hw
  clear hw
  go_wp2
  go_ret
  exact ⟨rfl, Went.behind (unhide HB) (unhide HW)⟩
set_option maxRecDepth 100000 in
theorem plays_13 (h : Dk w B D σ) (on wi i j : Int) (s : ByteArray) (HF : ∀ u, Dk u B D σ → Below w.heap.size w u → Calls Tryd.prog 17 #[.pointer (some ⟨D, 0, none⟩), .agg #[.int .i64 13, .int .i64 on, .int .i64 wi, .int .i64 i, .int .i64 j, .string s]] u fun e w' => e = .returned (.bool true) ∧ Went u w' B D) :
    Calls Tryd.prog 8 #[.pointer (some ⟨D, 0, none⟩), .agg #[.int .i64 13, .int .i64 on, .int .i64 wi, .int .i64 i, .int .i64 j, .string s]] w fun e w' => e = .returned (.bool true) ∧ Went w w' B D := by
  have hbel := (Below.refl w.heap.size w).alloc (Nat.le_refl _) (.cells #[.int .i64 13, .int .i64 on, .int .i64 wi, .int .i64 i, .int .i64 j, .string s] 32)
  have HG := hide (HF _ (h.keep hbel) hbel)
  have HB := hide (hbel.mono (Nat.le_trans h.ge (Nat.le_of_lt h.dlt)))
  clear h HF hbel
  go_enter Tryd.func8, Tryd.ntmps8
  go_wp2_with fail
  refine (unhide HG).mono ?_
  rintro e w1 ⟨rfl, hw⟩
  have HW := hide hw
  clear hw
  go_wp2
  go_ret
  exact ⟨rfl, Went.behind (unhide HB) (unhide HW)⟩
set_option maxRecDepth 100000 in
theorem plays_14 (h : Dk w B D σ) (on wi i j : Int) (s : ByteArray) (HF : ∀ u, Dk u B D σ → Below w.heap.size w u → Calls Tryd.prog 16 #[.pointer (some ⟨D, 0, none⟩), .agg #[.int .i64 14, .int .i64 on, .int .i64 wi, .int .i64 i, .int .i64 j, .string s]] u fun e w' => e = .returned (.bool true) ∧ Went u w' B D) :
    Calls Tryd.prog 8 #[.pointer (some ⟨D, 0, none⟩), .agg #[.int .i64 14, .int .i64 on, .int .i64 wi, .int .i64 i, .int .i64 j, .string s]] w fun e w' => e = .returned (.bool true) ∧ Went w w' B D := by
  have hbel := (Below.refl w.heap.size w).alloc (Nat.le_refl _) (.cells #[.int .i64 14, .int .i64 on, .int .i64 wi, .int .i64 i, .int .i64 j, .string s] 32)
  have HG := hide (HF _ (h.keep hbel) hbel)
  have HB := hide (hbel.mono (Nat.le_trans h.ge (Nat.le_of_lt h.dlt)))
  clear h HF hbel
  go_enter Tryd.func8, Tryd.ntmps8
  go_wp2_with fail
  refine (unhide HG).mono ?_
  rintro e w1 ⟨rfl, hw⟩
  have HW := hide hw
  clear hw
  go_wp2
  go_ret
  exact ⟨rfl, Went.behind (unhide HB) (unhide HW)⟩
set_option maxRecDepth 100000 in
theorem plays_15 (h : Dk w B D σ) (on wi i j : Int) (s : ByteArray) (HF : ∀ u, Dk u B D σ → Below w.heap.size w u → Calls Tryd.prog 38 #[.pointer (some ⟨D, 0, none⟩), .agg #[.int .i64 15, .int .i64 on, .int .i64 wi, .int .i64 i, .int .i64 j, .string s]] u fun e w' => e = .returned (.bool true) ∧ Went u w' B D) :
    Calls Tryd.prog 8 #[.pointer (some ⟨D, 0, none⟩), .agg #[.int .i64 15, .int .i64 on, .int .i64 wi, .int .i64 i, .int .i64 j, .string s]] w fun e w' => e = .returned (.bool true) ∧ Went w w' B D := by
  have hbel := (Below.refl w.heap.size w).alloc (Nat.le_refl _) (.cells #[.int .i64 15, .int .i64 on, .int .i64 wi, .int .i64 i, .int .i64 j, .string s] 32)
  have HG := hide (HF _ (h.keep hbel) hbel)
  have HB := hide (hbel.mono (Nat.le_trans h.ge (Nat.le_of_lt h.dlt)))
  clear h HF hbel
  go_enter Tryd.func8, Tryd.ntmps8
  go_wp2_with fail
  refine (unhide HG).mono ?_
  rintro e w1 ⟨rfl, hw⟩
  have HW := hide hw
  clear hw
  go_wp2
  go_ret
  exact ⟨rfl, Went.behind (unhide HB) (unhide HW)⟩
set_option maxRecDepth 100000 in
theorem plays_16 (h : Dk w B D σ) (on wi i j : Int) (s : ByteArray) (HF : ∀ u, Dk u B D σ → Below w.heap.size w u → Calls Tryd.prog 38 #[.pointer (some ⟨D, 0, none⟩), .agg #[.int .i64 16, .int .i64 on, .int .i64 wi, .int .i64 i, .int .i64 j, .string s]] u fun e w' => e = .returned (.bool true) ∧ Went u w' B D) :
    Calls Tryd.prog 8 #[.pointer (some ⟨D, 0, none⟩), .agg #[.int .i64 16, .int .i64 on, .int .i64 wi, .int .i64 i, .int .i64 j, .string s]] w fun e w' => e = .returned (.bool true) ∧ Went w w' B D := by
  have hbel := (Below.refl w.heap.size w).alloc (Nat.le_refl _) (.cells #[.int .i64 16, .int .i64 on, .int .i64 wi, .int .i64 i, .int .i64 j, .string s] 32)
  have HG := hide (HF _ (h.keep hbel) hbel)
  have HB := hide (hbel.mono (Nat.le_trans h.ge (Nat.le_of_lt h.dlt)))
  clear h HF hbel
  go_enter Tryd.func8, Tryd.ntmps8
  go_wp2_with fail
  refine (unhide HG).mono ?_
  rintro e w1 ⟨rfl, hw⟩
  have HW := hide hw
  clear hw
  go_wp2
  go_ret
  exact ⟨rfl, Went.behind (unhide HB) (unhide HW)⟩
set_option maxRecDepth 100000 in
theorem plays_17 (h : Dk w B D σ) (on wi i j : Int) (s : ByteArray) (HF : ∀ u, Dk u B D σ → Below w.heap.size w u → Calls Tryd.prog 38 #[.pointer (some ⟨D, 0, none⟩), .agg #[.int .i64 17, .int .i64 on, .int .i64 wi, .int .i64 i, .int .i64 j, .string s]] u fun e w' => e = .returned (.bool true) ∧ Went u w' B D) :
    Calls Tryd.prog 8 #[.pointer (some ⟨D, 0, none⟩), .agg #[.int .i64 17, .int .i64 on, .int .i64 wi, .int .i64 i, .int .i64 j, .string s]] w fun e w' => e = .returned (.bool true) ∧ Went w w' B D := by
  have hbel := (Below.refl w.heap.size w).alloc (Nat.le_refl _) (.cells #[.int .i64 17, .int .i64 on, .int .i64 wi, .int .i64 i, .int .i64 j, .string s] 32)
  have HG := hide (HF _ (h.keep hbel) hbel)
  have HB := hide (hbel.mono (Nat.le_trans h.ge (Nat.le_of_lt h.dlt)))
  clear h HF hbel
  go_enter Tryd.func8, Tryd.ntmps8
  go_wp2_with fail
  refine (unhide HG).mono ?_
  rintro e w1 ⟨rfl, hw⟩
  have HW := hide hw
  clear hw
  go_wp2
  go_ret
  exact ⟨rfl, Went.behind (unhide HB) (unhide HW)⟩
set_option maxRecDepth 100000 in
theorem plays_none (h : Dk w B D σ) (he : Like σ) (kind on wi i j : Int) (s : ByteArray) (k1 : ¬ kind = 1) (k2 : ¬ kind = 2) (k3 : ¬ kind = 3) (k4 : ¬ kind = 4) (k5 : ¬ kind = 5) (k6 : ¬ kind = 6) (k7 : ¬ kind = 7) (k8 : ¬ kind = 8) (k9 : ¬ kind = 9) (k10 : ¬ kind = 10) (k11 : ¬ kind = 11) (k12 : ¬ kind = 12) (k13 : ¬ kind = 13) (k14 : ¬ kind = 14) (k15 : ¬ kind = 15) (k16 : ¬ kind = 16) (k17 : ¬ kind = 17) :
    Calls Tryd.prog 8 #[.pointer (some ⟨D, 0, none⟩), .agg #[.int .i64 kind, .int .i64 on, .int .i64 wi, .int .i64 i, .int .i64 j, .string s]] w fun e w' => e = .returned (.bool true) ∧ Went w w' B D := by
  have hbel := (Below.refl w.heap.size w).alloc (Nat.le_refl _) (.cells #[.int .i64 kind, .int .i64 on, .int .i64 wi, .int .i64 i, .int .i64 j, .string s] 32)
  have HB := hide (Went.asked h he hbel)
  clear h he hbel
  go_enter Tryd.func8, Tryd.ntmps8
  go_wp2
  go_ret
  exact ⟨rfl, unhide HB⟩
theorem plays_any (h : Dk w B D σ) (he : Like σ) (hTb : Tab w) (x : Stq) (hx : x.Ok) : Calls Tryd.prog 8 #[.pointer (some ⟨D, 0, none⟩), .agg x.cs] w fun e w' => e = .returned (.bool true) ∧ Went w w' B D := by
  have h0 : 0 < w.heap.size := World.block_lt_of_cell? _ _ (hTb 0 (by decide))
  obtain ⟨kind, on, wi, i, j, s⟩ := x
  have hi : i64b i := hx.i
  have hs : s.size ≤ 9223372036854775807 := hx.s
  clear hx
  show Calls Tryd.prog 8 #[.pointer (some ⟨D, 0, none⟩), .agg #[.int .i64 kind, .int .i64 on, .int .i64 wi, .int .i64 i, .int .i64 j, .string s]] w _
  by_cases k1 : kind = 1
  · subst k1
    refine plays_1 h on wi i j s fun u hd _ => ?_
    · by_cases hx : i < 0 ∨ 65536 < i
      · exact makes_new_bad hd he on wi i j s hx
      · obtain ⟨n, rfl⟩ : ∃ n : Nat, i = (n : Int) := ⟨i.toNat, by omega⟩
        exact makes_new hd he on wi j s n (by omega)
  by_cases k2 : kind = 2
  · subst k2
    refine plays_2 h on wi i j s fun u hd _ => ?_
    · by_cases hx : i < 0 ∨ 65536 < i
      · exact makes_from_arg hd he on wi i j s hx
      · obtain ⟨n, rfl⟩ : ∃ n : Nat, i = (n : Int) := ⟨i.toNat, by omega⟩
        by_cases hg : Bit.Good s.data.toList n
        · exact makes_from hd he on wi j s n (by omega) hs hg
        · exact makes_from_bad hd he on wi j s n (by omega) hs hg
  by_cases k3 : kind = 3
  · subst k3
    refine plays_3 h on wi i j s fun u hd _ => ?_
    · exact turns_put hd he on wi i j s
  by_cases k4 : kind = 4
  · subst k4
    refine plays_4 h on wi i j s fun u hd _ => ?_
    · exact turns_take hd he on wi i j s
  by_cases k5 : kind = 5
  · subst k5
    refine plays_5 h on wi i j s fun u hd hu => ?_
    · exact asks_has hd he (hTb.below hu h0) on wi i j s hi
  by_cases k6 : kind = 6
  · subst k6
    refine plays_6 h on wi i j s fun u hd hu => ?_
    · exact asks_count hd he (hTb.below hu h0) on wi i j s hi
  by_cases k7 : kind = 7
  · subst k7
    refine plays_7 h on wi i j s fun u hd hu => ?_
    · exact asks_next hd he (hTb.below hu h0) on wi i j s hi
  by_cases k8 : kind = 8
  · subst k8
    refine plays_8 h on wi i j s fun u hd hu => ?_
    · exact asks_each hd he (hTb.below hu h0) on wi i j s hi
  by_cases k9 : kind = 9
  · subst k9
    refine plays_9 h on wi i j s fun u hd _ => ?_
    · exact turns_fill hd he on wi i j s
  by_cases k10 : kind = 10
  · subst k10
    refine plays_10 h on wi i j s fun u hd _ => ?_
    · exact turns_clear hd he on wi i j s
  by_cases k11 : kind = 11
  · subst k11
    refine plays_11 h on wi i j s fun u hd _ => ?_
    · exact turns_or hd he on wi i j s
  by_cases k12 : kind = 12
  · subst k12
    refine plays_12 h on wi i j s fun u hd _ => ?_
    · exact turns_and hd he on wi i j s
  by_cases k13 : kind = 13
  · subst k13
    refine plays_13 h on wi i j s fun u hd _ => ?_
    · exact turns_minus hd he on wi i j s
  by_cases k14 : kind = 14
  · subst k14
    refine plays_14 h on wi i j s fun u hd _ => ?_
    · cases hb : σ (sm wi) with
      | none => exact makes_copy_nil hd he on wi i j s hb
      | some t => exact makes_copy hd he on wi i j s t hb
  by_cases k15 : kind = 15
  · subst k15
    refine plays_15 h on wi i j s fun u hd hu => ?_
    · exact asks_same hd he (hTb.below hu h0) on wi i j s hi
  by_cases k16 : kind = 16
  · subst k16
    refine plays_16 h on wi i j s fun u hd hu => ?_
    · exact asks_told hd he (hTb.below hu h0) on wi i j s hi
  by_cases k17 : kind = 17
  · subst k17
    refine plays_17 h on wi i j s fun u hd hu => ?_
    · exact asks_len hd he (hTb.below hu h0) on wi i j s hi
  exact plays_none h he kind on wi i j s k1 k2 k3 k4 k5 k6 k7 k8 k9 k10 k11 k12 k13 k14 k15 k16 k17
end
end
section
open Go.RowKit

section
variable {w : World} {B D : Nat} {σ : Nat → Option Sq}
/-- what a call leaves, told -/
def WentP (w w' : World) (B D : Nat) (Φ : (Nat → Option Sq) → Prop) : Prop := ∃ σ', Dk w' B D σ' ∧ Like σ' ∧ Below B w w' ∧ Φ σ'
theorem WentP.made {w1 : World} {k : Nat} (h : Dk w B D σ) (he : Like σ) (hb : Below w.heap.size w w1) (hk : k < 3) (t0 : Sq) (hτ : ∀ t, some t0 = some t → t.Ok w1 ∧ (∀ x, t.has x → w.heap.size ≤ x) ∧ t.T = t.S) :
    WentP w ((w1.setCell ⟨D, k, none⟩ (ownV (some t0))).setCell ⟨D, 3 + k, none⟩ (refV (some t0))) B D fun σ' => σ' k = some t0 := by
  refine ⟨updS σ k (some t0), h.make hb hk (some t0) (fun t ht => ⟨(hτ t ht).1, (hτ t ht).2.1⟩), fun i s hs => ?_, belowCell (belowCell (hb.mono (Nat.le_trans h.ge (Nat.le_of_lt h.dlt))) h.ge _) h.ge _, updS_same _ _ _⟩
  by_cases e : i = k
  · subst e; rw [updS_same] at hs; exact (hτ s hs).2.2
  · rw [updS_other _ _ _ _ e] at hs; exact he i s hs
theorem WentP.mk' {w0 w1 w2 : World} {k : Nat} {σ1 σ2 : Nat → Option Sq} {gS hT : Sq → Nat} (h : Dk w B D σ) (he : Like σ) (hb : Below w.heap.size w w0) (hd : Dk w0 B D σ) (h1 : Lt w0 w1 B D σ σ1 k gS (fun s => s.T)) (h2 : Lt w1 w2 B D σ1 σ2 k (fun s => s.S) hT)
    (hg : ∀ s t, σ k = some s → σ1 k = some t → t.n = s.n → t.T = s.S → hT t = gS s) : WentP w w2 B D fun σ' => ∀ s, σ k = some s → ∃ t, σ' k = some t ∧ t.n = s.n ∧ t.S = gS s :=
  ⟨σ2, h2.d, like_again he h1 h2 hg, ((hb.mono (Nat.le_trans h.ge (Nat.le_of_lt h.dlt))).trans (h1.below hd)).trans (h2.below h1.d), fun s hs => by
    obtain ⟨t1, e1, _, _, e2, e3, _⟩ := h1.r.so s hs
    obtain ⟨t2, e4, _, _, e5, e6, _⟩ := h2.r.so t1 e1
    exact ⟨t2, e4, e5.trans e2, e6.trans e3⟩⟩
set_option maxRecDepth 100000 in
set_option maxHeartbeats 4000000 in
theorem makes_newP (h : Dk w B D σ) (he : Like σ) (on wi  j : Int) (s : ByteArray) (n : Nat) (hn : n ≤ 65536) : Calls Tryd.prog 16 #[.pointer (some ⟨D, 0, none⟩), .agg #[.int .i64 1, .int .i64 on, .int .i64 wi, .int .i64 (n : Int), .int .i64 j, .string s]] w fun e w' => e = .returned (.bool true) ∧ WentP w w' B D fun σ' => ∃ t, σ' (sm on) = some t ∧ t.n = n ∧ t.S = 0 := by
  have HA := hide (fun u => bNew n hn u)
  have HR := hide (fun u => rNew n hn u)
  clear hn
  have HS1 := hide (fun u => lSeat on u)
  have HS2 := hide (fun u => lSeat wi u)
  have ha := sm_lt on
  have hb := sm_lt wi
  generalize sm on = a at *
  generalize sm wi = b at *
  have hE := En.start h ha hb 1 on wi (n : Int) j s
  have hbel := (Below.refl w.heap.size w).alloc (Nat.le_refl _) (.cells #[.int .i64 1, .int .i64 on, .int .i64 wi, .int .i64 (n : Int), .int .i64 j, .string s] 32)
  have HH := hide (And.intro h he)
  have HD := hide (h.keep hbel)
  have HB := hide hbel
  have ha3 : ((a : Nat) : Int) < 3 := by omega
  have hb3 : ((b : Nat) : Int) < 3 := by omega
  have HAB := hide (And.intro ha hb)
  have hX : w.heap.size < (w.alloc (.cells #[.int .i64 1, .int .i64 on, .int .i64 wi, .int .i64 (n : Int), .int .i64 j, .string s] 32)).heap.size := World.block_lt_of_cell? _ _ hE.x0
  have HX := hide hX
  clear h he hbel hX
  go_enter Tryd.func16, Tryd.ntmps16
  go_wp2_with fail
  generalize w.alloc (.cells #[.int .i64 1, .int .i64 on, .int .i64 wi, .int .i64 (n : Int), .int .i64 j, .string s] 32) = w0 at *
  refine (unhide HS1 _).mono ?_
  rintro e wz ⟨rfl, hw⟩
  obtain rfl := hw.symm
  clear hw
  have c1 := hE.c1
  have c2 := hE.c2
  have c3 := hE.c3
  have c4 := hE.c4
  have x0 := hE.x0
  have x1 := hE.x1
  have x2 := hE.x2
  have x3 := hE.x3
  have x4 := hE.x4
  have x5 := hE.x5
  have HE := hide hE
  clear hE
  go_wp2_with fail
  refine (unhide HA _).mono ?_
  rintro e w5 ⟨pa, qa, rfl, hpa, hqa, hma, hb5⟩
  have hwb := (unhide HB).size
  have HM := hide (And.intro hwb (And.intro hpa (And.intro hqa hma)))
  clear hwb hpa hqa hma
  have hE := (unhide HE).below hb5 (unhide HD).dlt (unhide HX)
  clear c1 c2 c3 c4 x0 x1 x2 x3 x4 x5
  have HD5 := hide ((unhide HD).keep hb5)
  have HB5 := hide ((unhide HB).trans (hb5.mono (unhide HB).size))
  have HX5 : Hid (w.heap.size < w5.heap.size) := Nat.lt_of_lt_of_le (unhide HX) hb5.size
  clear HE HD HB HX
  have HD := hide (unhide HD5)
  have HB := hide (unhide HB5)
  have HX := hide (unhide HX5)
  clear HD5 HB5 HX5
  have c1 := hE.c1
  have c2 := hE.c2
  have c3 := hE.c3
  have c4 := hE.c4
  have x0 := hE.x0
  have x1 := hE.x1
  have x2 := hE.x2
  have x3 := hE.x3
  have x4 := hE.x4
  have x5 := hE.x5
  have HE := hide hE
  clear hE
  clear hb5
  go_wp2_with fail
  refine (unhide HR _).mono ?_
  rintro e w6 ⟨pb, qb, rfl, hpb, hqb, hmb0, hb6⟩
  have hlb := hmb0.qlt
  have hmb : Rn w6 pb qb n 0 := .inl hmb0
  clear hmb0
  have HR9 := hide (Sq.made (unhide HM).1 (unhide HM).2.1 (unhide HM).2.2.1 (unhide HM).2.2.2 hpb hqb hb6 hmb hlb)
  have hE := (unhide HE).below hb6 (unhide HD).dlt (unhide HX)
  clear c1 c2 c3 c4 x0 x1 x2 x3 x4 x5
  have HD6 := hide ((unhide HD).keep hb6)
  have HB6 := hide ((unhide HB).trans (hb6.mono (unhide HB).size))
  have HX6 : Hid (w.heap.size < w6.heap.size) := Nat.lt_of_lt_of_le (unhide HX) hb6.size
  clear HE HD HB HX
  have HD := hide (unhide HD6)
  have HB := hide (unhide HB6)
  have HX := hide (unhide HX6)
  clear HD6 HB6 HX6
  have c1 := hE.c1
  have c2 := hE.c2
  have c3 := hE.c3
  have c4 := hE.c4
  have x0 := hE.x0
  have x1 := hE.x1
  have x2 := hE.x2
  have x3 := hE.x3
  have x4 := hE.x4
  have x5 := hE.x5
  have HE := hide hE
  clear hE
  clear hb6 hpb hqb hmb hlb
  have q1 : w6.frozen? ⟨D, a, none⟩ = false := (unhide HD).fz a
  have q2 : (w6.setCell ⟨D, a, none⟩ (.pointer (some ⟨pa, 0, none⟩))).frozen? ⟨D, 3 + a, none⟩ = false := by have := heapCell_same (unhide HD).d a (.pointer (some ⟨pa, 0, none⟩)); simp only [World.frozen?, this]; rfl
  have q3 : (w6.setCell ⟨D, a, none⟩ (.pointer (some ⟨pa, 0, none⟩))).cell? ⟨D, 3 + a, none⟩ = some (refV (σ a)) := by rw [← c2]; exact cell_setCell_ne (unhide HD).d _ (by omega)
  go_wp2
  go_ret
  obtain ⟨σ', r1, r2, r3, r4⟩ := WentP.made (unhide HH).1 (unhide HH).2 (unhide HB) (unhide HAB).1 (Sq.mk pa qa pb qb n 0 0) (unhide HR9)
  exact ⟨rfl, σ', r1, r2, r3, _, r4, rfl, rfl⟩
set_option maxRecDepth 100000 in
set_option maxHeartbeats 2000000 in
theorem turns_putP (h : Dk w B D σ) (he : Like σ) (on wi i j : Int) (s : ByteArray) : Calls Tryd.prog 17 #[.pointer (some ⟨D, 0, none⟩), .agg #[.int .i64 3, .int .i64 on, .int .i64 wi, .int .i64 i, .int .i64 j, .string s]] w fun e w' => e = .returned (.bool true) ∧ WentP w w' B D fun σ' => ∀ s, σ (sm on) = some s → ∃ t, σ' (sm on) = some t ∧ t.n = s.n ∧ t.S = Sp.putS s.n s.S i := by
  have HS1 := hide (fun u => lSeat on u)
  have HS2 := hide (fun u => lSeat wi u)
  have ha := sm_lt on
  have hb := sm_lt wi
  generalize sm on = a at *
  generalize sm wi = b at *
  have hE := En.start h ha hb 3 on wi i j s
  have hbel := (Below.refl w.heap.size w).alloc (Nat.le_refl _) (.cells #[.int .i64 3, .int .i64 on, .int .i64 wi, .int .i64 i, .int .i64 j, .string s] 32)
  have HH := hide (And.intro h he)
  have HD := hide (h.keep hbel)
  have HB := hide hbel
  have ha3 : ((a : Nat) : Int) < 3 := by omega
  have hb3 : ((b : Nat) : Int) < 3 := by omega
  have HAB := hide (And.intro ha hb)
  have hX : w.heap.size < (w.alloc (.cells #[.int .i64 3, .int .i64 on, .int .i64 wi, .int .i64 i, .int .i64 j, .string s] 32)).heap.size := World.block_lt_of_cell? _ _ hE.x0
  have HX := hide hX
  clear h he hbel hX
  go_enter Tryd.func17, Tryd.ntmps17
  go_wp2
  generalize w.alloc (.cells #[.int .i64 3, .int .i64 on, .int .i64 wi, .int .i64 i, .int .i64 j, .string s] 32) = w0 at *
  have HE := hide hE
  have c1 := hE.c1
  have c2 := hE.c2
  have c3 := hE.c3
  have c4 := hE.c4
  have x0 := hE.x0
  have x1 := hE.x1
  have x2 := hE.x2
  have x3 := hE.x3
  have x4 := hE.x4
  clear hE
  go_quiet ((go_at_call 41; exact Calls.quiet_of_same (unhide HS1 _)))
  clear c1 c2 c3 c4 x0 x1 x2 x3 x4
  have hE := (unhide HE).drewN nq
  have HD2 := hide ((unhide HD).drewN nq)
  have HB2 := hide (belowDrewN (unhide HB) nq)
  have HX2 : Hid (w.heap.size < (w0.drewN nq).heap.size) := unhide HX
  clear HE HD HB HX
  generalize w0.drewN nq = w1 at *
  have HD := hide (unhide HD2)
  have HB := hide (unhide HB2)
  have HX := hide (unhide HX2)
  clear HD2 HB2 HX2
  have HE0 := hide hE
  clear hE
  go_wp2
  have hE := unhide HE0
  clear HE0
  have HE := hide hE
  have c1 := hE.c1
  have c2 := hE.c2
  have c3 := hE.c3
  have c4 := hE.c4
  have x0 := hE.x0
  have x1 := hE.x1
  have x2 := hE.x2
  have x3 := hE.x3
  have x4 := hE.x4
  clear hE
  go_quiet ((go_at_call 41; exact Calls.quiet_of_same (unhide HS1 _)))
  clear c1 c2 c3 c4 x0 x1 x2 x3 x4
  have hE := (unhide HE).drewN nq
  have HD2 := hide ((unhide HD).drewN nq)
  have HB2 := hide (belowDrewN (unhide HB) nq)
  have HX2 : Hid (w.heap.size < (w1.drewN nq).heap.size) := unhide HX
  clear HE HD HB HX
  generalize w1.drewN nq = w2 at *
  have HD := hide (unhide HD2)
  have HB := hide (unhide HB2)
  have HX := hide (unhide HX2)
  clear HD2 HB2 HX2
  have HE0 := hide hE
  clear hE
  go_wp2
  have hE := unhide HE0
  clear HE0
  have HE := hide hE
  have c1 := hE.c1
  have c2 := hE.c2
  have c3 := hE.c3
  have c4 := hE.c4
  have x0 := hE.x0
  have x1 := hE.x1
  have x2 := hE.x2
  have x3 := hE.x3
  have x4 := hE.x4
  clear hE
  go_quiet ((go_at_call 41; exact Calls.quiet_of_same (unhide HS2 _)))
  clear c1 c2 c3 c4 x0 x1 x2 x3 x4
  have hE := (unhide HE).drewN nq
  have HD2 := hide ((unhide HD).drewN nq)
  have HB2 := hide (belowDrewN (unhide HB) nq)
  have HX2 : Hid (w.heap.size < (w2.drewN nq).heap.size) := unhide HX
  clear HE HD HB HX
  generalize w2.drewN nq = w3 at *
  have HD := hide (unhide HD2)
  have HB := hide (unhide HB2)
  have HX := hide (unhide HX2)
  clear HD2 HB2 HX2
  have HE0 := hide hE
  clear hE
  go_wp2
  have hE := unhide HE0
  clear HE0
  have HE := hide hE
  have c1 := hE.c1
  have c2 := hE.c2
  have c3 := hE.c3
  have c4 := hE.c4
  have x0 := hE.x0
  have x1 := hE.x1
  have x2 := hE.x2
  have x3 := hE.x3
  have x4 := hE.x4
  clear hE
  go_quiet ((go_at_call 41; exact Calls.quiet_of_same (unhide HS2 _)))
  clear c1 c2 c3 c4 x0 x1 x2 x3 x4
  have hE := (unhide HE).drewN nq
  have HD2 := hide ((unhide HD).drewN nq)
  have HB2 := hide (belowDrewN (unhide HB) nq)
  have HX2 : Hid (w.heap.size < (w3.drewN nq).heap.size) := unhide HX
  clear HE HD HB HX
  generalize w3.drewN nq = w4 at *
  have HD := hide (unhide HD2)
  have HB := hide (unhide HB2)
  have HX := hide (unhide HX2)
  clear HD2 HB2 HX2
  have c1 := hE.c1
  have c2 := hE.c2
  have c3 := hE.c3
  have c4 := hE.c4
  have x0 := hE.x0
  have x1 := hE.x1
  have x2 := hE.x2
  have x3 := hE.x3
  have x4 := hE.x4
  clear hE
  have HA := hide (fun u (hd : Dk u B D σ) => pPut hd (unhide HAB).1 i)
  have HR : Hid (∀ u σ1 (gS gT : Sq → Nat), Rl σ σ1 a gS gT → Dk u B D σ1 → Calls Tryd.prog 44 #[refV (σ a), .int .i64 i] u fun e w' => e = .returned (.int .i64 (oneR i (σ a))) ∧ Left u w' B D σ1 a (fun s => s.S) (fun s => Sp.putS s.n s.T i)) := fun u σ1 gS gT r hd => by
    rw [← r.refV a, ← r.one i]
    exact dPut hd (unhide HAB).1 i
  have HXn := hide ((unhide HH).1.off (unhide HAB).1)
  have HDd := hide (unhide HD).drew
  have HBd : Hid (Below w.heap.size w w4.drew) := ⟨(unhide HB).os, (unhide HB).tape, (unhide HB).output, (unhide HB).size, (unhide HB).block⟩
  clear c1 c2 c3 c4
  go_wp2
  go_region_held3 (fun u => u.cell? ⟨w.heap.size, 3, none⟩ = some (.int .i64 i)) (first | (go_keep; done) | exact y3 | exact z3) (first | (go_at_call 24; refine (unhide HA _ (unhide HDd)).mono ?_; rintro e w5 ⟨rfl, σ1, hl1⟩; have HL1 := hide hl1; have HOf := hide (hl1.off (unhide HX) (unhide HXn)); have z3 := ((unhide HOf).2.1 3).trans x3; clear hl1) | (go_at_call 44; refine (unhide HR _ σ1 _ _ (unhide HL1).r (unhide HL1).d).mono ?_; rintro e w6 ⟨rfl, σ2, hl2⟩; have HL2 := hide hl2; have HOg := hide (hl2.off (unhide HOf).2.2 (unhide HOf).1); have y3 := ((unhide HOg).2.1 3).trans z3; clear hl2))
  go_wp2
  go_ret
  exact ⟨rfl, WentP.mk' (unhide HH).1 (unhide HH).2 (unhide HBd) (unhide HDd) (unhide HL1) (unhide HL2) (fun s t _ _ h1 h2 => by simp only [h1, h2])⟩
end
end
section
open Go.RowKit

theorem Dk.start (w : World) : Dk (w.alloc (.cells #[.pointer none, .pointer none, .pointer none, .pointer none, .pointer none, .pointer none] 29)) w.heap.size w.heap.size (fun _ => none) :=
  ⟨heap_alloc_new w _, Nat.le_refl _, fun _ _ s h => (by cases h), fun _ _ _ _ _ s _ h => (by cases h)⟩
/-- what holds between the steps -/
def Desk (w wr : World) : Prop := ∃ σ, Dk wr w.heap.size w.heap.size σ ∧ Like σ ∧ Below w.heap.size w wr
theorem Desk.went {w wr w' : World} (h : Desk w wr) (h2 : Went wr w' w.heap.size w.heap.size) : Desk w w' := by
  obtain ⟨_, _, _, hb⟩ := h
  obtain ⟨σ', a, b, c⟩ := h2
  exact ⟨σ', a, b, hb.trans c⟩
set_option maxRecDepth 100000 in
set_option maxHeartbeats 4000000 in
theorem plays_walk (l : List Stq) (ao : Option Addr) (cap : Nat) (w : World) (hl : l.length ≤ 9223372036854775807) (hst : Stqs w ao l) (hTb : Tab w) :
    Calls Tryd.prog 3 #[.slice ao l.length cap] w fun e w' => e = .returned (.bool true) ∧ Below w.heap.size w w' := by
  have h0 : 0 < w.heap.size := World.block_lt_of_cell? _ _ (hTb 0 (by decide))
  obtain ⟨L, hL⟩ : ∃ L, L = l.length := ⟨_, rfl⟩
  have HL := hide hL
  rw [← hL] at hl ⊢
  have HT := hide hTb
  have HST := hide hst
  have HDS : Hid (Desk w (w.alloc (.cells #[.pointer none, .pointer none, .pointer none, .pointer none, .pointer none, .pointer none] 29))) := ⟨_, Dk.start w, fun _ _ h => (by cases h), (Below.refl w.heap.size w).alloc (Nat.le_refl _) _⟩
  clear hL hst hTb
  go_enter Tryd.func3, Tryd.ntmps3
  go_wp2
  go_loopw [4] (fun i wr => ∃ k : Nat, k ≤ L ∧ i = .int .i64 k ∧ Hid (Desk w wr)) (fun i _ => L - (intOf i).toNat)
  case atStart => exact ⟨0, Nat.zero_le _, rfl, HDS⟩
  case round =>
    obtain ⟨k, hk, rfl, HD⟩ := hrel
    clear HDS
    by_cases hlt : k < L
    · have hki : (k : Int) < (L : Int) := by omega
      have hkl : k < l.length := by rw [← unhide HL]; exact hlt
      obtain ⟨g, o, rfl, hg, hat⟩ := (unhide HST).2 (by omega)
      have hok := (unhide HST).1 _ (List.getElem_mem hkl)
      have hx : l[k].At wr g (o + k * 6) := by
        obtain ⟨_, _, _, hb⟩ := unhide HD
        exact fun t ht => (hb.cell (p := ⟨g, o + k * 6 + t, none⟩) hg).trans (hat k hkl t ht)
      have HP : Hid (Calls Tryd.prog 8 #[.pointer (some ⟨w.heap.size, 0, none⟩), .agg l[k].cs] wr fun e w' => e = .returned (.bool true) ∧ Desk w w') := by
        have hdd := unhide HD
        obtain ⟨σ, hd, he, hb⟩ := unhide HD
        refine (plays_any hd he ((unhide HT).below hb h0) l[k] hok).mono ?_
        rintro e w' ⟨rfl, hw⟩
        exact ⟨rfl, hdd.went hw⟩
      generalize l[k] = x at *
      obtain ⟨kind, on, wi, i, j, s⟩ := x
      have x0 : wr.cell? ⟨g, o + k * 6, none⟩ = some (.int .i64 kind) := hx 0 (by decide)
      have x1 : wr.cell? ⟨g, o + k * 6 + 1, none⟩ = some (.int .i64 on) := hx 1 (by decide)
      have x2 : wr.cell? ⟨g, o + k * 6 + 2, none⟩ = some (.int .i64 wi) := hx 2 (by decide)
      have x3 : wr.cell? ⟨g, o + k * 6 + 3, none⟩ = some (.int .i64 i) := hx 3 (by decide)
      have x4 : wr.cell? ⟨g, o + k * 6 + 4, none⟩ = some (.int .i64 j) := hx 4 (by decide)
      have x5 : wr.cell? ⟨g, o + k * 6 + 5, none⟩ = some (.string s) := hx 5 (by decide)
      clear hx hat hok hkl HST
      go_wp2_with fail
      refine (show Calls Tryd.prog 8 #[.pointer (some ⟨w.heap.size, 0, none⟩), .agg #[.int .i64 kind, .int .i64 on, .int .i64 wi, .int .i64 i, .int .i64 j, .string s]] wr _ from unhide HP).mono ?_
      rintro e w1 ⟨rfl, hw⟩
      have HN := hide hw
      clear hw HP x0 x1 x2 x3 x4 x5
      go_wp2
      go_roundw
      case rel => exact ⟨k + 1, by omega, by go_num, HN⟩
      case measure => simp [intOf]; omega
    · obtain rfl : k = L := by omega
      clear hlt
      go_wp2
      go_loopw [5] (fun i wr => ∃ k : Nat, k ≤ 3 ∧ i = .int .i64 k ∧ Hid (Desk w wr)) (fun i _ => 3 - (intOf i).toNat)
      case atStart => exact ⟨0, Nat.zero_le _, rfl, HD⟩
      case round =>
        clear HD
        obtain ⟨m, hm, rfl, HD⟩ := hrel
        by_cases hm3 : m < 3
        · have hmi : ((m : Nat) : Int) < 3 := by omega
          obtain ⟨σ, hd, he, hb⟩ := unhide HD
          have c1 := hd.own m hm3
          have c2 := hd.ref m hm3
          have HK4 := hide hd.drew
          have HB4 : Hid (Below w.heap.size w wr.drew) := ⟨hb.os, hb.tape, hb.output, hb.size, hb.block⟩
          have HE := hide he
          have hEl := elsR_len (σ m) (fun s hs => (hd.ok m hm3 s hs).1.a.le)
          have HA1 := hide (fun u (hd : Dk u w.heap.size w.heap.size σ) => qTold hd hm3)
          have HA2 := hide (fun u (hd : Dk u w.heap.size w.heap.size σ) => rqTold hd he hm3)
          have HA3 := hide (fun u (hd : Dk u w.heap.size w.heap.size σ) => qLen hd hm3)
          have HA4 := hide (fun u (hd : Dk u w.heap.size w.heap.size σ) => rqLen hd he hm3)
          have HA5 := hide (fun u (hd : Dk u w.heap.size w.heap.size σ) (hT : Tab u) => qGone hd hT hm3)
          have HA6 := hide (fun u (hd : Dk u w.heap.size w.heap.size σ) => rqEach hd he hm3)
          generalize toldR (σ m) = ts at *
          generalize lenR (σ m) = ln at *
          generalize elsR (σ m) = E at *
          obtain ⟨le, hle⟩ : ∃ le, le = E.length := ⟨_, rfl⟩
          rw [← hle] at HA5 HA6
          have HLE := hide (And.intro hle hEl)
          clear hle hEl hd he hb HD
          go_wp2
          go_region_held3 (fun u => u.cell? ⟨w.heap.size, m, none⟩ = some (ownV (σ m)) ∧ u.cell? ⟨w.heap.size, 3 + m, none⟩ = some (refV (σ m))) (first | (go_keep; done) | exact ⟨(unhide HK9).own m hm3, (unhide HK9).ref m hm3⟩ | exact ⟨(unhide HK8).own m hm3, (unhide HK8).ref m hm3⟩ | exact ⟨(unhide HK7).own m hm3, (unhide HK7).ref m hm3⟩ | exact ⟨(unhide HK6).own m hm3, (unhide HK6).ref m hm3⟩ | exact ⟨(unhide HK5).own m hm3, (unhide HK5).ref m hm3⟩) (first
            | (go_at_call 9; refine (unhide HA1 _ (unhide HK4)).mono ?_; rintro e w5 ⟨rfl, hb5⟩; have HK5 := hide ((unhide HK4).keep hb5); have HB5 := hide ((unhide HB4).trans (hb5.mono (unhide HB4).size)); clear hb5)
            | (go_at_call 10; refine (unhide HA2 _ (unhide HK5)).mono ?_; rintro e w6 ⟨rfl, hb6⟩; have HK6 := hide ((unhide HK5).keep hb6); have HB6 := hide ((unhide HB5).trans (hb6.mono (unhide HB5).size)); clear hb6)
            | (go_at_call 11; refine (unhide HA3 _ (unhide HK6)).mono ?_; rintro e wz ⟨rfl, rfl⟩)
            | (go_at_call 12; refine (unhide HA4 _ (unhide HK6)).mono ?_; rintro e wz ⟨rfl, rfl⟩)
            | (go_at_call 14; refine (unhide HA5 _ (unhide HK6) ((unhide HT).below (unhide HB6) h0)).mono ?_; rintro e w7 ⟨⟨b1, cb1, rfl, hl1⟩, hb7⟩; have HK7 := hide ((unhide HK6).keep hb7); have HB7 := hide ((unhide HB6).trans (hb7.mono (unhide HB6).size)); have HL1 := hide hl1; clear hb7 hl1)
            | (go_at_call 15; refine (unhide HA6 _ (unhide HK7)).mono ?_; rintro e w8 ⟨⟨b2, cb2, rfl, hl2⟩, hb8⟩; have HK8 := hide ((unhide HK7).keep hb8); have HB8 := hide ((unhide HB7).trans (hb8.mono (unhide HB7).size)); have HSm := hide (lSameI E E b1 b2 cb1 cb2 w8 (by have := (unhide HLE).2; omega) ((unhide HL1).keep hb8 (Nat.le_refl _)) hl2); rw [decide_eq_true rfl, ← (unhide HLE).1] at HSm; clear hb8 hl2)
            | (go_at_call 13; refine (unhide HSm).mono ?_; rintro e w9 ⟨rfl, c, rfl⟩; have HK9 := hide ((unhide HK8).drewN c); have HB9 := hide (belowDrewN (unhide HB8) c)))
          go_wp2
          go_roundw
          case rel => exact ⟨m + 1, by omega, by go_num, hide ⟨σ, unhide HK9, unhide HE, unhide HB9⟩⟩
          case measure => simp [intOf]; omega
        · obtain rfl : m = 3 := by omega
          obtain ⟨σ, hd, he, hb⟩ := unhide HD
          have HM : Hid (Calls Tryd.prog 16 #[.pointer (some ⟨w.heap.size, 0, none⟩), .agg #[.int .i64 1, .int .i64 0, .int .i64 0, .int .i64 9, .int .i64 0, .string .empty]] wr fun e w' => e = .returned (.bool true) ∧ WentP wr w' w.heap.size w.heap.size fun σ' => ∃ t, σ' 0 = some t ∧ t.n = 9 ∧ t.S = 0) := makes_newP hd he 0 0 0 .empty 9 (by decide)
          have HB := hide hb
          clear hd he hb HD
          go_wp2_with fail
          refine (unhide HM).mono ?_
          rintro e w5 ⟨rfl, σ1, d1, l1, b1, t1, e1, n1, s1⟩
          have HP : Hid (Calls Tryd.prog 17 #[.pointer (some ⟨w.heap.size, 0, none⟩), .agg #[.int .i64 3, .int .i64 0, .int .i64 0, .int .i64 8, .int .i64 0, .string .empty]] w5 fun e w' => e = .returned (.bool true) ∧ WentP w5 w' w.heap.size w.heap.size fun σ' => ∀ s, σ1 0 = some s → ∃ t, σ' 0 = some t ∧ t.n = s.n ∧ t.S = Sp.putS s.n s.S 8) := turns_putP d1 l1 0 0 8 0 .empty
          have HB1 := hide b1
          have HE1 := hide (And.intro e1 (And.intro n1 s1))
          clear d1 l1 b1 e1 n1 s1 HM
          go_wp2_with fail
          refine (unhide HP).mono ?_
          rintro e w6 ⟨rfl, σ2, d2, l2, b2, r2⟩
          obtain ⟨t2, e2, n2, s2⟩ := r2 t1 (unhide HE1).1
          have hto : toldR (σ2 0) = ⟨#[0, 1]⟩ := by
            rw [e2]
            show (⟨(Bit.told t2.S t2.n).toArray⟩ : ByteArray) = _
            rw [s2, n2, (unhide HE1).2.1, (unhide HE1).2.2]
            decide
          have c := d2.own 0 (by decide)
          have HTo := hide (qTold d2 (k := 0) (by decide))
          rw [hto] at HTo
          have HB2 := hide b2
          clear d2 l2 b2 r2 e2 n2 s2 hto HP
          go_wp2_with fail
          refine (unhide HTo).mono ?_
          rintro e w7 ⟨rfl, b3⟩
          have HB3 := hide (((unhide HB).trans (unhide HB1)).trans (unhide HB2))
          have HB4 := hide ((unhide HB3).trans (b3.mono (unhide HB3).size))
          clear b3
          go_wp2
          go_ret
          exact ⟨rfl, unhide HB4⟩
end
end Go.Proofs.YtloealcaagfehaaDoor

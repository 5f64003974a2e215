/- plays: one step on both sides. -/
import Derived.Test.YtloealcaagfehaaDoorDm
namespace Go.Proofs.YtloealcaagfehaaDoor
open Go.RowKit

section
variable {w : World} {B D : Nat} {σ : Nat → Option Sq}
theorem Went.behind {w1 w2 : World} (h : Below B w w1) (h2 : Went w1 w2 B D) : Went w w2 B D := by
  obtain ⟨σ', a, b, c⟩ := h2
  exact ⟨σ', a, b, h.trans c⟩
set_option maxRecDepth 100000 in
theorem plays_1 (h : Dk w B D σ) (on wi i j : Int) (s : ByteArray) (HF : ∀ u, Dk u B D σ → Below w.heap.size w u → Calls Tryd.prog 16 #[.pointer (some ⟨D, 0, none⟩), .agg #[.int .i64 1, .int .i64 on, .int .i64 wi, .int .i64 i, .int .i64 j, .string s]] u fun e w' => e = .returned (.bool true) ∧ Went u w' B D) :
    Calls Tryd.prog 8 #[.pointer (some ⟨D, 0, none⟩), .agg #[.int .i64 1, .int .i64 on, .int .i64 wi, .int .i64 i, .int .i64 j, .string s]] w fun e w' => e = .returned (.bool true) ∧ Went w w' B D := by
  have hbel := (Below.refl w.heap.size w).alloc (Nat.le_refl _) (.cells #[.int .i64 1, .int .i64 on, .int .i64 wi, .int .i64 i, .int .i64 j, .string s] 32)
  have HG := hide (HF _ (h.keep hbel) hbel)
  have HB := hide (hbel.mono (Nat.le_trans h.ge (Nat.le_of_lt h.dlt)))
  clear h HF hbel
  go_enter Tryd.func8, Tryd.ntmps8
  go_wp2_with fail
  refine (unhide HG).mono ?_
  rintro e w1 ⟨rfl, hw⟩
  have HW := hide hw
  clear hw
  go_wp2
  go_ret
  exact ⟨rfl, Went.behind (unhide HB) (unhide HW)⟩
set_option maxRecDepth 100000 in
theorem plays_2 (h : Dk w B D σ) (on wi i j : Int) (s : ByteArray) (HF : ∀ u, Dk u B D σ → Below w.heap.size w u → Calls Tryd.prog 16 #[.pointer (some ⟨D, 0, none⟩), .agg #[.int .i64 2, .int .i64 on, .int .i64 wi, .int .i64 i, .int .i64 j, .string s]] u fun e w' => e = .returned (.bool true) ∧ Went u w' B D) :
    Calls Tryd.prog 8 #[.pointer (some ⟨D, 0, none⟩), .agg #[.int .i64 2, .int .i64 on, .int .i64 wi, .int .i64 i, .int .i64 j, .string s]] w fun e w' => e = .returned (.bool true) ∧ Went w w' B D := by
  have hbel := (Below.refl w.heap.size w).alloc (Nat.le_refl _) (.cells #[.int .i64 2, .int .i64 on, .int .i64 wi, .int .i64 i, .int .i64 j, .string s] 32)
  have HG := hide (HF _ (h.keep hbel) hbel)
  have HB := hide (hbel.mono (Nat.le_trans h.ge (Nat.le_of_lt h.dlt)))
  clear h HF hbel
  go_enter Tryd.func8, Tryd.ntmps8
  go_wp2_with fail
  refine (unhide HG).mono ?_
  rintro e w1 ⟨rfl, hw⟩
  have HW := hide hw
  clear hw
  go_wp2
  go_ret
  exact ⟨rfl, Went.behind (unhide HB) (unhide HW)⟩
set_option maxRecDepth 100000 in
theorem plays_3 (h : Dk w B D σ) (on wi i j : Int) (s : ByteArray) (HF : ∀ u, Dk u B D σ → Below w.heap.size w u → Calls Tryd.prog 17 #[.pointer (some ⟨D, 0, none⟩), .agg #[.int .i64 3, .int .i64 on, .int .i64 wi, .int .i64 i, .int .i64 j, .string s]] u fun e w' => e = .returned (.bool true) ∧ Went u w' B D) :
    Calls Tryd.prog 8 #[.pointer (some ⟨D, 0, none⟩), .agg #[.int .i64 3, .int .i64 on, .int .i64 wi, .int .i64 i, .int .i64 j, .string s]] w fun e w' => e = .returned (.bool true) ∧ Went w w' B D := by
  have hbel := (Below.refl w.heap.size w).alloc (Nat.le_refl _) (.cells #[.int .i64 3, .int .i64 on, .int .i64 wi, .int .i64 i, .int .i64 j, .string s] 32)
  have HG := hide (HF _ (h.keep hbel) hbel)
  have HB := hide (hbel.mono (Nat.le_trans h.ge (Nat.le_of_lt h.dlt)))
  clear h HF hbel
  go_enter Tryd.func8, Tryd.ntmps8
  go_wp2_with fail
  refine (unhide HG).mono ?_
  rintro e w1 ⟨rfl, hw⟩
  have HW := hide hw
  clear hw
  go_wp2
  go_ret
  exact ⟨rfl, Went.behind (unhide HB) (unhide HW)⟩
set_option maxRecDepth 100000 in
theorem plays_4 (h : Dk w B D σ) (on wi i j : Int) (s : ByteArray) (HF : ∀ u, Dk u B D σ → Below w.heap.size w u → Calls Tryd.prog 17 #[.pointer (some ⟨D, 0, none⟩), .agg #[.int .i64 4, .int .i64 on, .int .i64 wi, .int .i64 i, .int .i64 j, .string s]] u fun e w' => e = .returned (.bool true) ∧ Went u w' B D) :
    Calls Tryd.prog 8 #[.pointer (some ⟨D, 0, none⟩), .agg #[.int .i64 4, .int .i64 on, .int .i64 wi, .int .i64 i, .int .i64 j, .string s]] w fun e w' => e = .returned (.bool true) ∧ Went w w' B D := by
  have hbel := (Below.refl w.heap.size w).alloc (Nat.le_refl _) (.cells #[.int .i64 4, .int .i64 on, .int .i64 wi, .int .i64 i, .int .i64 j, .string s] 32)
  have HG := hide (HF _ (h.keep hbel) hbel)
  have HB := hide (hbel.mono (Nat.le_trans h.ge (Nat.le_of_lt h.dlt)))
  clear h HF hbel
  go_enter Tryd.func8, Tryd.ntmps8
  go_wp2_with fail
  refine (unhide HG).mono ?_
  rintro e w1 ⟨rfl, hw⟩
  have HW := hide hw
  clear hw
  go_wp2
  go_ret
  exact ⟨rfl, Went.behind (unhide HB) (unhide HW)⟩
set_option maxRecDepth 100000 in
theorem plays_5 (h : Dk w B D σ) (on wi i j : Int) (s : ByteArray) (HF : ∀ u, Dk u B D σ → Below w.heap.size w u → Calls Tryd.prog 38 #[.pointer (some ⟨D, 0, none⟩), .agg #[.int .i64 5, .int .i64 on, .int .i64 wi, .int .i64 i, .int .i64 j, .string s]] u fun e w' => e = .returned (.bool true) ∧ Went u w' B D) :
    Calls Tryd.prog 8 #[.pointer (some ⟨D, 0, none⟩), .agg #[.int .i64 5, .int .i64 on, .int .i64 wi, .int .i64 i, .int .i64 j, .string s]] w fun e w' => e = .returned (.bool true) ∧ Went w w' B D := by
  have hbel := (Below.refl w.heap.size w).alloc (Nat.le_refl _) (.cells #[.int .i64 5, .int .i64 on, .int .i64 wi, .int .i64 i, .int .i64 j, .string s] 32)
  have HG := hide (HF _ (h.keep hbel) hbel)
  have HB := hide (hbel.mono (Nat.le_trans h.ge (Nat.le_of_lt h.dlt)))
  clear h HF hbel
  go_enter Tryd.func8, Tryd.ntmps8
  go_wp2_with fail
  refine (unhide HG).mono ?_
  rintro e w1 ⟨rfl, hw⟩
  have HW := hide hw
  clear hw
  go_wp2
  go_ret
  exact ⟨rfl, Went.behind (unhide HB) (unhide HW)⟩
set_option maxRecDepth 100000 in
theorem plays_6 (h : Dk w B D σ) (on wi i j : Int) (s : ByteArray) (HF : ∀ u, Dk u B D σ → Below w.heap.size w u → Calls Tryd.prog 38 #[.pointer (some ⟨D, 0, none⟩), .agg #[.int .i64 6, .int .i64 on, .int .i64 wi, .int .i64 i, .int .i64 j, .string s]] u fun e w' => e = .returned (.bool true) ∧ Went u w' B D) :
    Calls Tryd.prog 8 #[.pointer (some ⟨D, 0, none⟩), .agg #[.int .i64 6, .int .i64 on, .int .i64 wi, .int .i64 i, .int .i64 j, .string s]] w fun e w' => e = .returned (.bool true) ∧ Went w w' B D := by
  have hbel := (Below.refl w.heap.size w).alloc (Nat.le_refl _) (.cells #[.int .i64 6, .int .i64 on, .int .i64 wi, .int .i64 i, .int .i64 j, .string s] 32)
  have HG := hide (HF _ (h.keep hbel) hbel)
  have HB := hide (hbel.mono (Nat.le_trans h.ge (Nat.le_of_lt h.dlt)))
  clear h HF hbel
  go_enter Tryd.func8, Tryd.ntmps8
  go_wp2_with fail
  refine (unhide HG).mono ?_
  rintro e w1 ⟨rfl, hw⟩
  have HW := hide hw
  clear hw
  go_wp2
  go_ret
  exact ⟨rfl, Went.behind (unhide HB) (unhide HW)⟩
set_option maxRecDepth 100000 in
theorem plays_7 (h : Dk w B D σ) (on wi i j : Int) (s : ByteArray) (HF : ∀ u, Dk u B D σ → Below w.heap.size w u → Calls Tryd.prog 38 #[.pointer (some ⟨D, 0, none⟩), .agg #[.int .i64 7, .int .i64 on, .int .i64 wi, .int .i64 i, .int .i64 j, .string s]] u fun e w' => e = .returned (.bool true) ∧ Went u w' B D) :
    Calls Tryd.prog 8 #[.pointer (some ⟨D, 0, none⟩), .agg #[.int .i64 7, .int .i64 on, .int .i64 wi, .int .i64 i, .int .i64 j, .string s]] w fun e w' => e = .returned (.bool true) ∧ Went w w' B D := by
  have hbel := (Below.refl w.heap.size w).alloc (Nat.le_refl _) (.cells #[.int .i64 7, .int .i64 on, .int .i64 wi, .int .i64 i, .int .i64 j, .string s] 32)
  have HG := hide (HF _ (h.keep hbel) hbel)
  have HB := hide (hbel.mono (Nat.le_trans h.ge (Nat.le_of_lt h.dlt)))
  clear h HF hbel
  go_enter Tryd.func8, Tryd.ntmps8
  go_wp2_with fail
  refine (unhide HG).mono ?_
  rintro e w1 ⟨rfl, hw⟩
  have HW := hide hw
  clear hw
  go_wp2
  go_ret
  exact ⟨rfl, Went.behind (unhide HB) (unhide HW)⟩
set_option maxRecDepth 100000 in
theorem plays_8 (h : Dk w B D σ) (on wi i j : Int) (s : ByteArray) (HF : ∀ u, Dk u B D σ → Below w.heap.size w u → Calls Tryd.prog 38 #[.pointer (some ⟨D, 0, none⟩), .agg #[.int .i64 8, .int .i64 on, .int .i64 wi, .int .i64 i, .int .i64 j, .string s]] u fun e w' => e = .returned (.bool true) ∧ Went u w' B D) :
    Calls Tryd.prog 8 #[.pointer (some ⟨D, 0, none⟩), .agg #[.int .i64 8, .int .i64 on, .int .i64 wi, .int .i64 i, .int .i64 j, .string s]] w fun e w' => e = .returned (.bool true) ∧ Went w w' B D := by
  have hbel := (Below.refl w.heap.size w).alloc (Nat.le_refl _) (.cells #[.int .i64 8, .int .i64 on, .int .i64 wi, .int .i64 i, .int .i64 j, .string s] 32)
  have HG := hide (HF _ (h.keep hbel) hbel)
  have HB := hide (hbel.mono (Nat.le_trans h.ge (Nat.le_of_lt h.dlt)))
  clear h HF hbel
  go_enter Tryd.func8, Tryd.ntmps8
  go_wp2_with fail
  refine (unhide HG).mono ?_
  rintro e w1 ⟨rfl, hw⟩
  have HW := hide hw
  clear hw
  go_wp2
  go_ret
  exact ⟨rfl, Went.behind (unhide HB) (unhide HW)⟩
set_option maxRecDepth 100000 in
theorem plays_9 (h : Dk w B D σ) (on wi i j : Int) (s : ByteArray) (HF : ∀ u, Dk u B D σ → Below w.heap.size w u → Calls Tryd.prog 17 #[.pointer (some ⟨D, 0, none⟩), .agg #[.int .i64 9, .int .i64 on, .int .i64 wi, .int .i64 i, .int .i64 j, .string s]] u fun e w' => e = .returned (.bool true) ∧ Went u w' B D) :
    Calls Tryd.prog 8 #[.pointer (some ⟨D, 0, none⟩), .agg #[.int .i64 9, .int .i64 on, .int .i64 wi, .int .i64 i, .int .i64 j, .string s]] w fun e w' => e = .returned (.bool true) ∧ Went w w' B D := by
  have hbel := (Below.refl w.heap.size w).alloc (Nat.le_refl _) (.cells #[.int .i64 9, .int .i64 on, .int .i64 wi, .int .i64 i, .int .i64 j, .string s] 32)
  have HG := hide (HF _ (h.keep hbel) hbel)
  have HB := hide (hbel.mono (Nat.le_trans h.ge (Nat.le_of_lt h.dlt)))
  clear h HF hbel
  go_enter Tryd.func8, Tryd.ntmps8
  go_wp2_with fail
  refine (unhide HG).mono ?_
  rintro e w1 ⟨rfl, hw⟩
  have HW := hide hw
  clear hw
  go_wp2
  go_ret
  exact ⟨rfl, Went.behind (unhide HB) (unhide HW)⟩
set_option maxRecDepth 100000 in
theorem plays_10 (h : Dk w B D σ) (on wi i j : Int) (s : ByteArray) (HF : ∀ u, Dk u B D σ → Below w.heap.size w u → Calls Tryd.prog 17 #[.pointer (some ⟨D, 0, none⟩), .agg #[.int .i64 10, .int .i64 on, .int .i64 wi, .int .i64 i, .int .i64 j, .string s]] u fun e w' => e = .returned (.bool true) ∧ Went u w' B D) :
    Calls Tryd.prog 8 #[.pointer (some ⟨D, 0, none⟩), .agg #[.int .i64 10, .int .i64 on, .int .i64 wi, .int .i64 i, .int .i64 j, .string s]] w fun e w' => e = .returned (.bool true) ∧ Went w w' B D := by
  have hbel := (Below.refl w.heap.size w).alloc (Nat.le_refl _) (.cells #[.int .i64 10, .int .i64 on, .int .i64 wi, .int .i64 i, .int .i64 j, .string s] 32)
  have HG := hide (HF _ (h.keep hbel) hbel)
  have HB := hide (hbel.mono (Nat.le_trans h.ge (Nat.le_of_lt h.dlt)))
  clear h HF hbel
  go_enter Tryd.func8, Tryd.ntmps8
  go_wp2_with fail
  refine (unhide HG).mono ?_
  rintro e w1 ⟨rfl, hw⟩
  have HW := hide hw
  clear hw
  go_wp2
  go_ret
  exact ⟨rfl, Went.behind (unhide HB) (unhide HW)⟩
set_option maxRecDepth 100000 in
theorem plays_11 (h : Dk w B D σ) (on wi i j : Int) (s : ByteArray) (HF : ∀ u, Dk u B D σ → Below w.heap.size w u → Calls Tryd.prog 17 #[.pointer (some ⟨D, 0, none⟩), .agg #[.int .i64 11, .int .i64 on, .int .i64 wi, .int .i64 i, .int .i64 j, .string s]] u fun e w' => e = .returned (.bool true) ∧ Went u w' B D) :
    Calls Tryd.prog 8 #[.pointer (some ⟨D, 0, none⟩), .agg #[.int .i64 11, .int .i64 on, .int .i64 wi, .int .i64 i, .int .i64 j, .string s]] w fun e w' => e = .returned (.bool true) ∧ Went w w' B D := by
  have hbel := (Below.refl w.heap.size w).alloc (Nat.le_refl _) (.cells #[.int .i64 11, .int .i64 on, .int .i64 wi, .int .i64 i, .int .i64 j, .string s] 32)
  have HG := hide (HF _ (h.keep hbel) hbel)
  have HB := hide (hbel.mono (Nat.le_trans h.ge (Nat.le_of_lt h.dlt)))
  clear h HF hbel
  go_enter Tryd.func8, Tryd.ntmps8
  go_wp2_with fail
  refine (unhide HG).mono ?_
  rintro e w1 ⟨rfl, hw⟩
  have HW := hide hw
  clear hw
  go_wp2
  go_ret
  exact ⟨rfl, Went.behind (unhide HB) (unhide HW)⟩
set_option maxRecDepth 100000 in
theorem plays_12 (h : Dk w B D σ) (on wi i j : Int) (s : ByteArray) (HF : ∀ u, Dk u B D σ → Below w.heap.size w u → Calls Tryd.prog 17 #[.pointer (some ⟨D, 0, none⟩), .agg #[.int .i64 12, .int .i64 on, .int .i64 wi, .int .i64 i, .int .i64 j, .string s]] u fun e w' => e = .returned (.bool true) ∧ Went u w' B D) :
    Calls Tryd.prog 8 #[.pointer (some ⟨D, 0, none⟩), .agg #[.int .i64 12, .int .i64 on, .int .i64 wi, .int .i64 i, .int .i64 j, .string s]] w fun e w' => e = .returned (.bool true) ∧ Went w w' B D := by
  have hbel := (Below.refl w.heap.size w).alloc (Nat.le_refl _) (.cells #[.int .i64 12, .int .i64 on, .int .i64 wi, .int .i64 i, .int .i64 j, .string s] 32)
  have HG := hide (HF _ (h.keep hbel) hbel)
  have HB := hide (hbel.mono (Nat.le_trans h.ge (Nat.le_of_lt h.dlt)))
  clear h HF hbel
  go_enter Tryd.func8, Tryd.ntmps8
  go_wp2_with fail
  refine (unhide HG).mono ?_
  rintro e w1 ⟨rfl, hw⟩
  have HW := hide hw
  clear hw
  go_wp2
  go_ret
  exact ⟨rfl, Went.behind (unhide HB) (unhide HW)⟩
set_option maxRecDepth 100000 in
theorem plays_13 (h : Dk w B D σ) (on wi i j : Int) (s : ByteArray) (HF : ∀ u, Dk u B D σ → Below w.heap.size w u → Calls Tryd.prog 17 #[.pointer (some ⟨D, 0, none⟩), .agg #[.int .i64 13, .int .i64 on, .int .i64 wi, .int .i64 i, .int .i64 j, .string s]] u fun e w' => e = .returned (.bool true) ∧ Went u w' B D) :
    Calls Tryd.prog 8 #[.pointer (some ⟨D, 0, none⟩), .agg #[.int .i64 13, .int .i64 on, .int .i64 wi, .int .i64 i, .int .i64 j, .string s]] w fun e w' => e = .returned (.bool true) ∧ Went w w' B D := by
  have hbel := (Below.refl w.heap.size w).alloc (Nat.le_refl _) (.cells #[.int .i64 13, .int .i64 on, .int .i64 wi, .int .i64 i, .int .i64 j, .string s] 32)
  have HG := hide (HF _ (h.keep hbel) hbel)
  have HB := hide (hbel.mono (Nat.le_trans h.ge (Nat.le_of_lt h.dlt)))
  clear h HF hbel
  go_enter Tryd.func8, Tryd.ntmps8
  go_wp2_with fail
  refine (unhide HG).mono ?_
  rintro e w1 ⟨rfl, hw⟩
  have HW := hide hw
  clear hw
  go_wp2
  go_ret
  exact ⟨rfl, Went.behind (unhide HB) (unhide HW)⟩
set_option maxRecDepth 100000 in
theorem plays_14 (h : Dk w B D σ) (on wi i j : Int) (s : ByteArray) (HF : ∀ u, Dk u B D σ → Below w.heap.size w u → Calls Tryd.prog 16 #[.pointer (some ⟨D, 0, none⟩), .agg #[.int .i64 14, .int .i64 on, .int .i64 wi, .int .i64 i, .int .i64 j, .string s]] u fun e w' => e = .returned (.bool true) ∧ Went u w' B D) :
    Calls Tryd.prog 8 #[.pointer (some ⟨D, 0, none⟩), .agg #[.int .i64 14, .int .i64 on, .int .i64 wi, .int .i64 i, .int .i64 j, .string s]] w fun e w' => e = .returned (.bool true) ∧ Went w w' B D := by
  have hbel := (Below.refl w.heap.size w).alloc (Nat.le_refl _) (.cells #[.int .i64 14, .int .i64 on, .int .i64 wi, .int .i64 i, .int .i64 j, .string s] 32)
  have HG := hide (HF _ (h.keep hbel) hbel)
  have HB := hide (hbel.mono (Nat.le_trans h.ge (Nat.le_of_lt h.dlt)))
  clear h HF hbel
  go_enter Tryd.func8, Tryd.ntmps8
  go_wp2_with fail
  refine (unhide HG).mono ?_
  rintro e w1 ⟨rfl, hw⟩
  have HW := hide hw
  clear hw
  go_wp2
  go_ret
  exact ⟨rfl, Went.behind (unhide HB) (unhide HW)⟩
set_option maxRecDepth 100000 in
theorem plays_15 (h : Dk w B D σ) (on wi i j : Int) (s : ByteArray) (HF : ∀ u, Dk u B D σ → Below w.heap.size w u → Calls Tryd.prog 38 #[.pointer (some ⟨D, 0, none⟩), .agg #[.int .i64 15, .int .i64 on, .int .i64 wi, .int .i64 i, .int .i64 j, .string s]] u fun e w' => e = .returned (.bool true) ∧ Went u w' B D) :
    Calls Tryd.prog 8 #[.pointer (some ⟨D, 0, none⟩), .agg #[.int .i64 15, .int .i64 on, .int .i64 wi, .int .i64 i, .int .i64 j, .string s]] w fun e w' => e = .returned (.bool true) ∧ Went w w' B D := by
  have hbel := (Below.refl w.heap.size w).alloc (Nat.le_refl _) (.cells #[.int .i64 15, .int .i64 on, .int .i64 wi, .int .i64 i, .int .i64 j, .string s] 32)
  have HG := hide (HF _ (h.keep hbel) hbel)
  have HB := hide (hbel.mono (Nat.le_trans h.ge (Nat.le_of_lt h.dlt)))
  clear h HF hbel
  go_enter Tryd.func8, Tryd.ntmps8
  go_wp2_with fail
  refine (unhide HG).mono ?_
  rintro e w1 ⟨rfl, hw⟩
  have HW := hide hw
  clear hw
  go_wp2
  go_ret
  exact ⟨rfl, Went.behind (unhide HB) (unhide HW)⟩
set_option maxRecDepth 100000 in
theorem plays_16 (h : Dk w B D σ) (on wi i j : Int) (s : ByteArray) (HF : ∀ u, Dk u B D σ → Below w.heap.size w u → Calls Tryd.prog 38 #[.pointer (some ⟨D, 0, none⟩), .agg #[.int .i64 16, .int .i64 on, .int .i64 wi, .int .i64 i, .int .i64 j, .string s]] u fun e w' => e = .returned (.bool true) ∧ Went u w' B D) :
    Calls Tryd.prog 8 #[.pointer (some ⟨D, 0, none⟩), .agg #[.int .i64 16, .int .i64 on, .int .i64 wi, .int .i64 i, .int .i64 j, .string s]] w fun e w' => e = .returned (.bool true) ∧ Went w w' B D := by
  have hbel := (Below.refl w.heap.size w).alloc (Nat.le_refl _) (.cells #[.int .i64 16, .int .i64 on, .int .i64 wi, .int .i64 i, .int .i64 j, .string s] 32)
  have HG := hide (HF _ (h.keep hbel) hbel)
  have HB := hide (hbel.mono (Nat.le_trans h.ge (Nat.le_of_lt h.dlt)))
  clear h HF hbel
  go_enter Tryd.func8, Tryd.ntmps8
  go_wp2_with fail
  refine (unhide HG).mono ?_
  rintro e w1 ⟨rfl, hw⟩
  have HW := hide hw
  clear hw
  go_wp2
  go_ret
  exact ⟨rfl, Went.behind (unhide HB) (unhide HW)⟩
set_option maxRecDepth 100000 in
theorem plays_17 (h : Dk w B D σ) (on wi i j : Int) (s : ByteArray) (HF : ∀ u, Dk u B D σ → Below w.heap.size w u → Calls Tryd.prog 38 #[.pointer (some ⟨D, 0, none⟩), .agg #[.int .i64 17, .int .i64 on, .int .i64 wi, .int .i64 i, .int .i64 j, .string s]] u fun e w' => e = .returned (.bool true) ∧ Went u w' B D) :
    Calls Tryd.prog 8 #[.pointer (some ⟨D, 0, none⟩), .agg #[.int .i64 17, .int .i64 on, .int .i64 wi, .int .i64 i, .int .i64 j, .string s]] w fun e w' => e = .returned (.bool true) ∧ Went w w' B D := by
  have hbel := (Below.refl w.heap.size w).alloc (Nat.le_refl _) (.cells #[.int .i64 17, .int .i64 on, .int .i64 wi, .int .i64 i, .int .i64 j, .string s] 32)
  have HG := hide (HF _ (h.keep hbel) hbel)
  have HB := hide (hbel.mono (Nat.le_trans h.ge (Nat.le_of_lt h.dlt)))
  clear h HF hbel
  go_enter Tryd.func8, Tryd.ntmps8
  go_wp2_with fail
  refine (unhide HG).mono ?_
  rintro e w1 ⟨rfl, hw⟩
  have HW := hide hw
  clear hw
  go_wp2
  go_ret
  exact ⟨rfl, Went.behind (unhide HB) (unhide HW)⟩
set_option maxRecDepth 100000 in
theorem plays_none (h : Dk w B D σ) (he : Like σ) (kind on wi i j : Int) (s : ByteArray) (k1 : ¬ kind = 1) (k2 : ¬ kind = 2) (k3 : ¬ kind = 3) (k4 : ¬ kind = 4) (k5 : ¬ kind = 5) (k6 : ¬ kind = 6) (k7 : ¬ kind = 7) (k8 : ¬ kind = 8) (k9 : ¬ kind = 9) (k10 : ¬ kind = 10) (k11 : ¬ kind = 11) (k12 : ¬ kind = 12) (k13 : ¬ kind = 13) (k14 : ¬ kind = 14) (k15 : ¬ kind = 15) (k16 : ¬ kind = 16) (k17 : ¬ kind = 17) :
    Calls Tryd.prog 8 #[.pointer (some ⟨D, 0, none⟩), .agg #[.int .i64 kind, .int .i64 on, .int .i64 wi, .int .i64 i, .int .i64 j, .string s]] w fun e w' => e = .returned (.bool true) ∧ Went w w' B D := by
  have hbel := (Below.refl w.heap.size w).alloc (Nat.le_refl _) (.cells #[.int .i64 kind, .int .i64 on, .int .i64 wi, .int .i64 i, .int .i64 j, .string s] 32)
  have HB := hide (Went.asked h he hbel)
  clear h he hbel
  go_enter Tryd.func8, Tryd.ntmps8
  go_wp2
  go_ret
  exact ⟨rfl, unhide HB⟩
theorem plays_any (h : Dk w B D σ) (he : Like σ) (hTb : Tab w) (x : Stq) (hx : x.Ok) : Calls Tryd.prog 8 #[.pointer (some ⟨D, 0, none⟩), .agg x.cs] w fun e w' => e = .returned (.bool true) ∧ Went w w' B D := by
  have h0 : 0 < w.heap.size := World.block_lt_of_cell? _ _ (hTb 0 (by decide))
  obtain ⟨kind, on, wi, i, j, s⟩ := x
  have hi : i64b i := hx.i
  have hs : s.size ≤ 9223372036854775807 := hx.s
  clear hx
  show Calls Tryd.prog 8 #[.pointer (some ⟨D, 0, none⟩), .agg #[.int .i64 kind, .int .i64 on, .int .i64 wi, .int .i64 i, .int .i64 j, .string s]] w _
  by_cases k1 : kind = 1
  · subst k1
    refine plays_1 h on wi i j s fun u hd _ => ?_
    · by_cases hx : i < 0 ∨ 65536 < i
      · exact makes_new_bad hd he on wi i j s hx
      · obtain ⟨n, rfl⟩ : ∃ n : Nat, i = (n : Int) := ⟨i.toNat, by omega⟩
        exact makes_new hd he on wi j s n (by omega)
  by_cases k2 : kind = 2
  · subst k2
    refine plays_2 h on wi i j s fun u hd _ => ?_
    · by_cases hx : i < 0 ∨ 65536 < i
      · exact makes_from_arg hd he on wi i j s hx
      · obtain ⟨n, rfl⟩ : ∃ n : Nat, i = (n : Int) := ⟨i.toNat, by omega⟩
        by_cases hg : Bit.Good s.data.toList n
        · exact makes_from hd he on wi j s n (by omega) hs hg
        · exact makes_from_bad hd he on wi j s n (by omega) hs hg
  by_cases k3 : kind = 3
  · subst k3
    refine plays_3 h on wi i j s fun u hd _ => ?_
    · exact turns_put hd he on wi i j s
  by_cases k4 : kind = 4
  · subst k4
    refine plays_4 h on wi i j s fun u hd _ => ?_
    · exact turns_take hd he on wi i j s
  by_cases k5 : kind = 5
  · subst k5
    refine plays_5 h on wi i j s fun u hd hu => ?_
    · exact asks_has hd he (hTb.below hu h0) on wi i j s hi
  by_cases k6 : kind = 6
  · subst k6
    refine plays_6 h on wi i j s fun u hd hu => ?_
    · exact asks_count hd he (hTb.below hu h0) on wi i j s hi
  by_cases k7 : kind = 7
  · subst k7
    refine plays_7 h on wi i j s fun u hd hu => ?_
    · exact asks_next hd he (hTb.below hu h0) on wi i j s hi
  by_cases k8 : kind = 8
  · subst k8
    refine plays_8 h on wi i j s fun u hd hu => ?_
    · exact asks_each hd he (hTb.below hu h0) on wi i j s hi
  by_cases k9 : kind = 9
  · subst k9
    refine plays_9 h on wi i j s fun u hd _ => ?_
    · exact turns_fill hd he on wi i j s
  by_cases k10 : kind = 10
  · subst k10
    refine plays_10 h on wi i j s fun u hd _ => ?_
    · exact turns_clear hd he on wi i j s
  by_cases k11 : kind = 11
  · subst k11
    refine plays_11 h on wi i j s fun u hd _ => ?_
    · exact turns_or hd he on wi i j s
  by_cases k12 : kind = 12
  · subst k12
    refine plays_12 h on wi i j s fun u hd _ => ?_
    · exact turns_and hd he on wi i j s
  by_cases k13 : kind = 13
  · subst k13
    refine plays_13 h on wi i j s fun u hd _ => ?_
    · exact turns_minus hd he on wi i j s
  by_cases k14 : kind = 14
  · subst k14
    refine plays_14 h on wi i j s fun u hd _ => ?_
    · cases hb : σ (sm wi) with
      | none => exact makes_copy_nil hd he on wi i j s hb
      | some t => exact makes_copy hd he on wi i j s t hb
  by_cases k15 : kind = 15
  · subst k15
    refine plays_15 h on wi i j s fun u hd hu => ?_
    · exact asks_same hd he (hTb.below hu h0) on wi i j s hi
  by_cases k16 : kind = 16
  · subst k16
    refine plays_16 h on wi i j s fun u hd hu => ?_
    · exact asks_told hd he (hTb.below hu h0) on wi i j s hi
  by_cases k17 : kind = 17
  · subst k17
    refine plays_17 h on wi i j s fun u hd hu => ?_
    · exact asks_len hd he (hTb.below hu h0) on wi i j s hi
  exact plays_none h he kind on wi i j s k1 k2 k3 k4 k5 k6 k7 k8 k9 k10 k11 k12 k13 k14 k15 k16 k17
end
end Go.Proofs.YtloealcaagfehaaDoor

/- The page: number, Ends. -/
import Derived.Test.YtkmcjjlkammlaaaDoorPq
namespace Go.Proofs.YtkmcjjlkammlaaaDoor
open Go.RowKit Go.Lib

theorem pNumber (l : List UInt8) (hl : l.length = 8) (g o cap : Nat) (w : World) (hc : ∀ (j : Nat) (hj : j < l.length), w.cell? ⟨g, o + j, none⟩ = some (.int .u8 (l[j].toNat : Int))) :
    Calls Tryd.prog 27 #[.slice (some ⟨g, o, none⟩) 8 cap] w fun e w' => e = .returned (.int .u64 (numB l : Int)) ∧ Below w.heap.size w w' := by
  have hcv : (convert 29 9 (.slice (some ⟨g, o, none⟩) 8 cap)).run Tryd.prog w = .ok (.string ⟨l.toArray⟩) w := by
    have := run_convert_bytes_back w 29 9 5 ⟨g, o, none⟩ cap l Tryd.underlying29 Tryd.underlying5 Tryd.underlying9 fun j hj => by rw [Addr.add_mid]; exact hc j hj
    rw [hl] at this
    exact this
  have hTs : (⟨l.toArray⟩ : ByteArray).size = 8 := by rw [← size_toList]; exact hl
  have HR : Hid (Rd (w.alloc (.cells #[.string ⟨l.toArray⟩, .int .i64 0, .int .i64 0] 73)) w.heap.size ⟨l.toArray⟩ 0 0) := Rd.new _ w 73 (by rw [hTs]; decide)
  have HF : Hid (Calls Tryd.prog 35 #[.pointer (some ⟨w.heap.size, 0, none⟩), .int .i64 8] (w.alloc (.cells #[.string ⟨l.toArray⟩, .int .i64 0, .int .i64 0] 73)) fun e w' => e = .returned (.int .u64 (numB l : Int)) ∧ Below w.heap.size w w') := by
    have h := rFixed w.heap.size ⟨l.toArray⟩ 0 0 8 _ (unhide HR)
    rw [show fixS ⟨l.toArray⟩ 0 0 8 = _ from fixS_at _ 0 8 (by decide) (by decide) (by omega)] at h
    refine h.mono ?_
    rintro e w' ⟨rfl, hr⟩
    have e1 : ((⟨l.toArray⟩ : ByteArray).extract 0 (0 + 8)).data.toList = l := by
      rw [ext_list, List.drop_zero, List.take_of_length_le (by omega)]
    refine ⟨by rw [e1], ?_⟩
    have hb := (Below.refl w.heap.size w).alloc (Nat.le_refl _) (.cells #[.string ⟨l.toArray⟩, .int .i64 0, .int .i64 0] 73)
    exact hb.trans (hr.2.below hb.size (Nat.le_refl _) (Nat.le_refl _))
  generalize (⟨l.toArray⟩ : ByteArray) = T at *
  clear hc hTs HR hl
  go_enter Tryd.func27, Tryd.ntmps27
  go_wp2_with fail
  refine (rNew T _).mono ?_
  rintro e w1 ⟨rfl, hw⟩
  obtain rfl := hw.symm
  clear hw
  go_wp2_with fail
  refine (unhide HF).mono ?_
  rintro e w2 ⟨rfl, hb⟩
  have HB := hide hb
  clear hb
  go_wp2
  go_ret
  exact ⟨rfl, unhide HB⟩
/-- head and tail of a page's bytes -/
def hd8 (l : List UInt8) : Nat := numB (l.take 8)
def tl8 (l : List UInt8) : Nat := numB (l.drop 1016)
set_option maxRecDepth 100000 in
theorem pEnds (l : List UInt8) (hl : l.length = 1024) (g o cap : Nat) (hcap : 1024 ≤ cap) (hc63 : cap ≤ 9223372036854775807) (w : World) (hg : g < w.heap.size) (hc : ∀ (j : Nat) (hj : j < l.length), w.cell? ⟨g, o + j, none⟩ = some (.int .u8 (l[j].toNat : Int))) :
    Calls Tryd.prog 19 #[.slice (some ⟨g, o, none⟩) 1024 cap] w fun e w' => e = .returned (.tuple #[.int .u64 (hd8 l : Int), .int .u64 (tl8 l : Int), .bool true]) ∧ Below w.heap.size w w' := by
  have HN1 : Hid (∀ u, Below w.heap.size w u → Calls Tryd.prog 27 #[.slice (some ⟨g, o, none⟩) 8 cap] u fun e w' => e = .returned (.int .u64 (hd8 l : Int)) ∧ Below u.heap.size u w') := fun u hu =>
    pNumber (l.take 8) (by rw [List.length_take]; omega) g o cap u fun j hj => by
      have hj2 : j < l.length := by rw [List.length_take] at hj; omega
      rw [hu.cell (p := ⟨g, o + j, none⟩) hg, hc j hj2, List.getElem_take]
  have HN2 : Hid (∀ u, Below w.heap.size w u → Calls Tryd.prog 27 #[.slice (some ⟨g, o + 1016, none⟩) 8 (cap - 1016)] u fun e w' => e = .returned (.int .u64 (tl8 l : Int)) ∧ Below u.heap.size u w') := fun u hu =>
    pNumber (l.drop 1016) (by rw [List.length_drop]; omega) g (o + 1016) (cap - 1016) u fun j hj => by
      have hj2 : 1016 + j < l.length := by rw [List.length_drop] at hj; omega
      rw [Nat.add_assoc, hu.cell (p := ⟨g, o + (1016 + j), none⟩) hg, hc (1016 + j) hj2, List.getElem_drop]
  generalize hd8 l = h8 at *
  generalize tl8 l = t8 at *
  have h1i : (8 : Int) ≤ (cap : Int) := by omega
  have h2i : (1024 : Int) ≤ (cap : Int) := by omega
  have HC := hide (And.intro hcap hc63)
  clear hc hl hg hcap hc63
  go_enter Tryd.func19, Tryd.ntmps19
  go_wp2
  go_region_held3 (fun _ => True) (exact trivial) (first
    | (go_at_call_of 27 (Value.slice (some ⟨g, o, none⟩) 8 cap); refine (unhide HN1 _ ?_).mono ?_; exact (show Below w.heap.size w w.drew from ⟨rfl, rfl, rfl, Nat.le_refl _, fun _ _ => rfl⟩); rintro e w5 ⟨rfl, hb5⟩; have HB5 := hide (show Below w.heap.size w w5 from ⟨hb5.os, hb5.tape, hb5.output, hb5.size, hb5.block⟩); clear hb5)
    | (go_at_call 27; refine (unhide HN2 _ (unhide HB5)).mono ?_; rintro e w6 ⟨rfl, hb6⟩; have HB6 := hide ((unhide HB5).trans (hb6.mono (unhide HB5).size)); clear hb6))
  go_wp2
  refine bodyPost_ret (v := .tuple #[.int .u64 (h8 : Int), .int .u64 (t8 : Int), .bool true]) (by simp [results, Tryd.f19]) rfl ?_
  exact ⟨rfl, unhide HB6⟩
end Go.Proofs.YtkmcjjlkammlaaaDoor

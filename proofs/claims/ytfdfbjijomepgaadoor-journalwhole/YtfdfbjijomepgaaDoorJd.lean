/- The journal: a page is written, on a disk. -/
import Derived.Test.YtfdfbjijomepgaaDoorJc
import Derived.Test.YtfdfbjijomepgaaDoorDj
import Derived.Test.YtfdfbjijomepgaaDoorPe
namespace Go.Proofs.YtfdfbjijomepgaaDoor
open Go.RowKit

theorem imgRangeD {u : World} {G : Nat} {l : List UInt8} {t : TypeId} (h : u.heap[G]? = some (.cells (img l) t (0, 0))) : u.rangeAt G 0 (Lib.byteCells l) := fun j v hv => by
  rw [Nat.zero_add, cellOf h]
  simpa [img, Lib.byteCells] using hv
section
variable {B : Nat} {u : World} {Dd : Nat} {F : List Nat} {d : D.Dk}
set_option maxRecDepth 100000 in
set_option maxHeartbeats 1000000 in
theorem jWrite (h : D.Dsk B u Dd F d) (hB : B ≤ u.heap.size) (hm : d.pend.length ≤ 1000000000) (x : Int) (p : Pg) (hf : p.Fit) (hp : p.wrong = 0) (hT : Tab u) :
    Calls Tryd.prog 33 #[.iface 50 (.pointer (some ⟨Dd, 0, none⟩)), .int .i64 x, .agg p.cs] u fun e u' => e = .returned (.int .i64 (d.write x p.enc).1) ∧ ∃ F', D.Dsk B u' Dd F' (d.write x p.enc).2 ∧ D.UpS u u' F ∧ ∀ k ∈ F', k ∈ F ∨ u.heap.size ≤ k := by
  have HE := hide (fun u hT => pEncode p hf hp u hT)
  have HLn : Hid (p.enc.length = 1024) := p.bytes_len (Pg.may hp).2 _
  obtain ⟨C, hC⟩ : ∃ C, C = p.cs := ⟨_, rfl⟩
  have HCI : Hid ((Tryd.prog.info? 70).map (·.size) = some C.size) := by rw [hC]; exact pgInfo
  obtain ⟨bs, hbs⟩ : ∃ z, z = p.enc := ⟨_, rfl⟩
  rw [← hC, ← hbs] at HE
  rw [← hbs] at HLn ⊢
  rw [← hC]
  have hwr : d.write x bs = ((d.write x bs).1, (d.write x bs).2) := rfl
  obtain ⟨ec, hec⟩ : ∃ z, z = (d.write x bs).1 := ⟨_, rfl⟩
  obtain ⟨d', hd'⟩ : ∃ z, z = (d.write x bs).2 := ⟨_, rfl⟩
  rw [← hec, ← hd'] at hwr
  rw [← hec, ← hd']
  have HWR := hide hwr
  have HH := hide (And.intro h (And.intro hB (And.intro hm hT)))
  obtain ⟨N, hN⟩ : ∃ N, N = u.heap.size := ⟨_, rfl⟩
  have HN := hide hN
  clear h hB hm hf hp hT hC hbs hwr hec hd' hN
  go_enter Tryd.func33, Tryd.ntmps33
  go_wp2_with (first
    | (refine wpList_box_row (by rfl) 70 (.tmp 2) (by rfl) (some 5) (by rfl) N (by exact (unhide HN).symm) C (by rfl) ?_; intro W1 HX1 HB1 HS1; simp only [Act.put, List.setIfInBounds_toArray, List.set_cons_zero, List.set_cons_succ])
    | (refine wpList_load_row (by rfl) 70 (.tmp 5) (by rfl) N (by rfl) 70 C (0, 0) _ (unhide HX1) pgUnd rfl (unhide HCI) ?_; simp only [Act.put, List.setIfInBounds_toArray, List.set_cons_zero, List.set_cons_succ]))
  have HBW : Hid (Below u.heap.size u W1) := by rw [← unhide HN]; exact unhide HB1
  refine (unhide HE W1 ((unhide HH).2.2.2.below (unhide HBW) (unhide HH).2.2.2.pos)).mono ?_
  rintro e w2 ⟨G, rfl, hG, hx, hb⟩
  have HB2 : Hid (Below u.heap.size u w2) := (unhide HBW).trans (hb.mono (unhide HBW).size)
  have HGF : Hid (G ∉ F) := fun hk => by have := ((unhide HH).1.ge _ hk).2; have := (unhide HBW).size; omega
  have HX := hide hx
  clear hG hx hb
  go_wp2_with fail
  refine (D.kWriteN ((unhide HH).1.below (unhide HB2)) (by have := (unhide HH).2.1; have := (unhide HB2).size; omega) x (some ⟨G, 0, none⟩) 1024 1024 bs (unhide HLn).symm (fun _ => ⟨G, 0, rfl, unhide HGF, imgRangeD (unhide HX)⟩) (unhide HH).2.2.1 _ (unhide HWR)).mono ?_
  rintro e w3 ⟨rfl, F3, hd, hu, hf⟩
  have HR : Hid (D.Dsk B w3 Dd F3 d' ∧ D.UpS u w3 F ∧ ∀ k ∈ F3, k ∈ F ∨ u.heap.size ≤ k) := ⟨hd, (D.UpS.ofBelow F (unhide HB2)).trans hu (fun k hk => .inl hk), fun k hk => (hf k hk).imp id (fun h => Nat.le_trans (unhide HB2).size h)⟩
  clear hd hu hf
  go_wp2
  go_ret
  exact ⟨rfl, F3, unhide HR⟩
end
end Go.Proofs.YtfdfbjijomepgaaDoor

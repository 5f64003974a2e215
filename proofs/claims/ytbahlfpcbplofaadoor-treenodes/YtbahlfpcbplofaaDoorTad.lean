/- The walk of TreeNodes. Written by mktab.py. -/
import Derived.Test.YtbahlfpcbplofaaDoorTac
namespace Go.Proofs.YtbahlfpcbplofaaDoor.T
open Go.RowKit Go.Lib
theorem nd2005 : ndV 3 2005 = (2278, 0) := by decide
set_option maxRecDepth 100000 in
set_option maxHeartbeats 4000000 in
theorem nodes15_walk (lv ix : Int) (n : Nat) (hn : n < 65536) (u : World) (ht : Tab u) : Calls Tryd.prog 4 #[.int .i64 lv, .int .i64 ix, .int .u16 (n : Int)] u fun e u' => e = .returned (.bool true) ∧ Below u.heap.size u u' := by
  have HT := hide ht
  obtain ⟨⟨na, ne⟩, hnd⟩ : ∃ x, x = ndV lv ix := ⟨_, rfl⟩
  obtain ⟨⟨pa, pb⟩, hpr⟩ : ∃ x, x = parV n := ⟨_, rfl⟩
  obtain ⟨⟨ka, kb⟩, hkd⟩ : ∃ x, x = kidV n ix := ⟨_, rfl⟩
  obtain ⟨li, hli⟩ : ∃ x, x = levI n := ⟨_, rfl⟩
  obtain ⟨ii, hii⟩ : ∃ x, x = idxI n := ⟨_, rfl⟩
  have HP1 := hide (pNode lv ix u ht)
  have HP2 := hide (fun W => rNode lv ix W)
  have HP3 := hide (fun (W : World) (h : Tab W) => pParent n hn W h)
  have HP4 := hide (fun W => rParent n hn W)
  have HP5 := hide (fun W => pKid n hn ix W)
  have HP6 := hide (fun W => rKid n hn ix W)
  have HP7 := hide (fun (W : World) (h : Tab W) => pNode 3 2005 W h)
  have HP8 := hide (fun (W : World) (h : Tab W) => pLevel n hn W h)
  have HP9 := hide (fun W => rLevel n hn W)
  have HPA := hide (fun (W : World) (h : Tab W) => pIndex n hn W h)
  have HPB := hide (fun W => rIndex n hn W)
  rw [← hnd] at HP1 HP2
  rw [← hpr] at HP3 HP4
  rw [← hkd] at HP5 HP6
  rw [nd2005] at HP7
  rw [← hli] at HP8 HP9
  rw [← hii] at HPA HPB
  have e1 : (na == na) = true := by simp
  have e2 : (ne == ne) = true := by simp
  have e3 : (pa == pa) = true := by simp
  have e4 : (pb == pb) = true := by simp
  have e5 : (ka == ka) = true := by simp
  have e6 : (kb == kb) = true := by simp
  have e7 : (li == li) = true := by simp
  have e8 : (ii == ii) = true := by simp
  clear ht hnd hpr hkd hli hii
  generalize (n : Int) = x at *
  clear hn
  go_enter Tryd.func4, Tryd.ntmps4
  go_wp2_with (first
    | (go_at_call 17; refine (unhide HP1).mono ?_; rintro e W1 ⟨rfl, hb⟩; have HB1 := hide hb; have HT1 := hide ((unhide HT).below hb); clear hb HP1)
    | (go_at_call 18; refine (unhide HP2 _).mono ?_; rintro e W2 ⟨rfl, hw⟩; subst hw; clear HP2)
    | (go_at_call 19; refine (unhide HP3 _ (unhide HT1)).mono ?_; rintro e W3 ⟨rfl, hw⟩; subst hw; clear HP3)
    | (go_at_call 20; refine (unhide HP4 _).mono ?_; rintro e W4 ⟨rfl, hw⟩; subst hw; clear HP4)
    | (go_at_call 21; refine (unhide HP5 _).mono ?_; rintro e W5 ⟨rfl, hw⟩; subst hw; clear HP5)
    | (go_at_call 22; refine (unhide HP6 _).mono ?_; rintro e W6 ⟨rfl, hw⟩; subst hw; clear HP6; have HPQ := hide (unhide HP7 _ (unhide HT1)))
    | (go_at_call 17; refine (unhide HPQ).mono ?_; rintro e W7 ⟨rfl, hb⟩; have HB7 : Hid (Below u.heap.size u W7) := (unhide HB1).trans (hb.mono (unhide HB1).size); have HT7 := hide ((unhide HT1).below hb); clear hb HPQ)
    | (go_at_call 23; refine (unhide HP8 _ (unhide HT7)).mono ?_; rintro e W8 ⟨rfl, hw⟩; subst hw; clear HP8)
    | (go_at_call 24; refine (unhide HP9 _).mono ?_; rintro e W9 ⟨rfl, hw⟩; subst hw; clear HP9)
    | (go_at_call 25; refine (unhide HPA _ (unhide HT7)).mono ?_; rintro e W10 ⟨rfl, hw⟩; subst hw; clear HPA)
    | (go_at_call 26; refine (unhide HPB _).mono ?_; rintro e W11 ⟨rfl, hw⟩; subst hw; clear HPB)
    | fail)
  go_ret
  exact ⟨rfl, unhide HB7⟩
theorem nodes15_int (lv ix x : Int) (h : 0 ≤ x ∧ x ≤ 65535) (u : World) (ht : Tab u) : Calls Tryd.prog 4 #[.int .i64 lv, .int .i64 ix, .int .u16 x] u fun e u' => e = .returned (.bool true) ∧ Below u.heap.size u u' := by
  obtain ⟨n, rfl⟩ := Int.eq_ofNat_of_zero_le h.1
  exact nodes15_walk lv ix n (by omega) u ht
end Go.Proofs.YtbahlfpcbplofaaDoor.T

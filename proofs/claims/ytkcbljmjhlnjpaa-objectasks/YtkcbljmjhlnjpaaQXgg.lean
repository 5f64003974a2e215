/- Vectors, the document's side: Encode. -/
import Derived.Test.YtkcbljmjhlnjpaaQXgc
import Derived.Test.YtkcbljmjhlnjpaaQXgf
import Derived.Test.YtkcbljmjhlnjpaaQ06
namespace Go.Proofs.Ytkcbljmjhlnjpaa
open Go.RowKit

theorem catL (x y : List UInt8) (hx : x.length ≤ 8388608) (hy : y.length ≤ 8388608) (W : World) : (Op.stringOp .add ⟨x.toArray⟩ ⟨y.toArray⟩).run Try.prog W = .ok (.string ⟨(x ++ y).toArray⟩) W :=
  run_string_add_lists W x y (by omega) (by omega)
set_option maxRecDepth 100000 in
set_option maxHeartbeats 4000000 in
theorem rEncode (l : List (Nat × Nat)) (ao : Option Addr) (c : Nat) (u : World) (h : DAt u l ao) :
    Calls Try.prog 109 #[.slice ao l.length c] u fun e u' => e = .returned (.tuple #[.string (encV l).1, .int .i64 (encV l).2]) ∧ Below u.heap.size u u' := by
  have HV := hide (rValid l ao c u h)
  have HQ := hide h.lies
  have HF := hide h.fits
  have HU : Hid (∀ (v : Nat) (w : World), v < 18446744073709551616 → Calls Try.prog 110 #[.int .u64 (v : Int)] w fun e w' => e = .returned (.string ⟨(W.uintB 9 v).toArray⟩) ∧ Below w.heap.size w w') := fun v w hv => W.mwUint v w hv
  clear h
  obtain ⟨N, hN⟩ : ∃ N, N = u.heap.size := ⟨_, rfl⟩
  have HN := hide hN
  rw [← hN]
  have HUP : Hid (∀ W W' : World, Below N u W → Below W.heap.size W W' → Below N u W') := fun W W' h1 h2 => h1.trans (h2.mono (by rw [hN]; exact h1.size))
  clear hN
  cases hok : V.okB l with
  | false =>
    rw [show encV l = (⟨#[]⟩, 100) by unfold encV; rw [hok]; rfl]
    rw [hok] at HV
    go_enter Try.func109, Try.ntmps109
    go_wp2_with (first | (go_at_call 91; refine (unhide HV).mono ?_; rintro e w1 ⟨rfl, z, rfl⟩) | fail)
    go_ret2
    exact ⟨rfl, by rw [unhide HN]; exact belowDrewN (Below.refl _ _) _⟩
  | true =>
    have hl64 : l.length ≤ 64 := (V.okB_true.1 hok).len
    rw [show encV l = (⟨(vecB l).toArray⟩, 0) by unfold encV; rw [hok]; rfl]
    rw [hok] at HV
    have HE : Hid (vecB l = W.uintB 9 l.length ++ dotsB (l.take l.length)) := by rw [List.take_length]; exact rfl
    have HL : Hid (∀ k, (W.uintB 9 l.length ++ dotsB (l.take k)).length ≤ 1290) := fun k => by
      have h1 := (uintB_len 9 l.length).2
      have h2 := dotsB_len (l.take k)
      rw [List.length_take] at h2
      simp only [List.length_append]
      omega
    have HT := hide (fun k (hk : k < l.length) => dotsB_take l hk)
    obtain ⟨n, hn⟩ : ∃ n, n = l.length := ⟨_, rfl⟩
    have HLN := hide hn
    rw [← hn] at hl64 HV HE HL ⊢
    have h64i : (n : Int) ≤ 64 := by omega
    have hcv : IntKind.u64.wrap (n : Int) = (n : Int) := by rw [IntKind.wrap_u64]; omega
    have HU0 := hide (fun w => unhide HU n w (by omega))
    clear hn hok
    generalize vecB l = vb at *
    go_enter Try.func109, Try.ntmps109
    go_wp2_with (first
      | (go_at_call 91; refine (unhide HV).mono ?_; rintro e w1 ⟨rfl, z, hz⟩; have HB1 : Hid (Below N u w1) := (by rw [hz, unhide HN]; exact belowDrewN (Below.refl _ _) _); clear hz)
      | (go_at_call 110; refine (unhide HU0 _).mono ?_; rintro e w2 ⟨rfl, hb2⟩; have HB2 := hide (unhide HUP _ _ (unhide HB1) hb2); clear hb2)
      | fail)
    go_loopw [4, 5] (fun s i wr => ∃ (k : Nat) (bs : List UInt8), k ≤ n ∧ i = .int .i64 k ∧ s = .string ⟨bs.toArray⟩ ∧ Hid (bs = W.uintB 9 n ++ dotsB (l.take k)) ∧ Hid (Below N u wr)) (fun _ i _ => n - (intOf i).toNat)
    case atStart => exact ⟨0, W.uintB 9 n, Nat.zero_le _, rfl, rfl, by rw [List.take_zero, show dotsB [] = [] from rfl, List.append_nil]; exact rfl, unhide HB2⟩
    case round =>
      clear HB1 HB2
      obtain ⟨k, bs, hk, rfl, rfl, HBS, HI⟩ := hrel
      by_cases hlt : k < n
      · have hki : (k : Int) < (n : Int) := by omega
        have hkl : k < l.length := by rw [← unhide HLN]; exact hlt
        obtain ⟨g, o, hao, c1, c2⟩ := (unhide HQ).dt hkl
        subst hao
        have HC : Hid (∀ W : World, Below N u W → W.cell? ⟨g, o + k * 2, none⟩ = some (.int .u32 (l[k].1 : Int)) ∧ W.cell? ⟨g, o + k * 2 + 1, none⟩ = some (.int .u64 (l[k].2 : Int))) := fun W hW => ⟨cell_keep (unhide HN) hW c1, cell_keep (unhide HN) hW c2⟩
        have hix := ixD g o n c k hlt
        have hf := unhide HF _ (List.getElem_mem hkl)
        have HTK := hide (unhide HT k hkl)
        have hbl : bs.length ≤ 1290 := by rw [unhide HBS]; exact unhide HL k
        clear c1 c2
        generalize l[k] = q at *
        obtain ⟨qa, qc⟩ := q
        have HC : Hid (∀ W : World, Below N u W → W.cell? ⟨g, o + k * 2, none⟩ = some (.int .u32 (qa : Int)) ∧ W.cell? ⟨g, o + k * 2 + 1, none⟩ = some (.int .u64 (qc : Int))) := HC
        have hq1 : qa < 4294967296 := hf.1
        have hq2 : qc < 18446744073709551616 := hf.2
        have hcq : IntKind.u64.wrap (qa : Int) = (qa : Int) := by rw [IntKind.wrap_u64]; omega
        have HK1 := hide (fun w => unhide HU qa w (by omega))
        have HK2 := hide (fun w => unhide HU qc w hq2)
        have HTE : Hid (bs ++ W.uintB 9 qa ++ W.uintB 9 qc = W.uintB 9 n ++ dotsB (l.take (k + 1))) := by rw [unhide HTK, unhide HBS]; simp only [List.append_assoc]; exact trivial
        have hu1 := (uintB_len 9 qa).2
        have hu2 := (uintB_len 9 qc).2
        generalize W.uintB 9 qa = T1 at *
        generalize W.uintB 9 qc = T2 at *
        have hcat1 := catL bs T1 (by omega) (by omega)
        have hcat2 := catL (bs ++ T1) T2 (by rw [List.length_append]; omega) (by omega)
        obtain ⟨S1, hS1⟩ : ∃ S1, S1 = bs ++ T1 := ⟨_, rfl⟩
        obtain ⟨S2, hS2⟩ : ∃ S2, S2 = bs ++ T1 ++ T2 := ⟨_, rfl⟩
        rw [← hS2] at hcat2 HTE
        rw [← hS1] at hcat1 hcat2
        generalize o + k * 2 = oo at *
        clear hf hq1 hq2 hu1 hu2 hS1 hS2 hbl HTK
        obtain ⟨y0, y1⟩ := unhide HC _ (unhide HI)
        go_wp2_with fail
        go_region_held3 (fun w => w.cell? ⟨g, oo, none⟩ = some (.int .u32 (qa : Int)) ∧ w.cell? ⟨g, oo + 1, none⟩ = some (.int .u64 (qc : Int))) (first | exact ⟨y0, y1⟩ | exact ⟨z0, z1⟩ | exact ⟨v0, v1⟩ | (go_keep; done)) (first
          | (go_at_call_of 110 (Value.int IntKind.u64 (qa : Int)); have _t := HK1; refine (unhide HK1 _).mono ?_; rintro e w3 ⟨rfl, hb3⟩; have HB3 := hide (unhide HUP _ _ (belowDrew (unhide HI)) hb3); obtain ⟨z0, z1⟩ := unhide HC _ (unhide HB3); clear hb3 HK1 _t)
          | (go_at_call 110; refine (unhide HK2 _).mono ?_; rintro e w4 ⟨rfl, hb4⟩; have HB4 := hide (unhide HUP _ _ (unhide HB3) hb4); obtain ⟨v0, v1⟩ := unhide HC _ (unhide HB4); clear hb4)
          | fail)
        go_wp2
        go_roundw
        case rel => exact ⟨k + 1, S2, by omega, by go_num, rfl, unhide HTE, unhide HB4⟩
        case measure => simp [intOf]; omega
      · obtain rfl : k = n := by omega
        have hki : ¬ (k : Int) < (k : Int) := by omega
        go_wp2
        go_ret2
        exact ⟨by rw [unhide HE, ← unhide HBS]; rfl, unhide HI⟩
end Go.Proofs.Ytkcbljmjhlnjpaa

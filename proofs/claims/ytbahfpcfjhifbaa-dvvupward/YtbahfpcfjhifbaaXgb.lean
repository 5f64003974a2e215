/- Vectors, the document's side: Valid, Count, Covers, Below, Compare, Next. -/
import Derived.Test.YtbahfpcfjhifbaaXk
namespace Go.Proofs.Ytbahfpcfjhifbaa
open Go.RowKit

set_option maxRecDepth 100000 in
set_option maxHeartbeats 4000000 in
theorem rValid (l : List (Nat × Nat)) (ao : Option Addr) (c : Nat) (u : World) (h : DAt u l ao) : Calls Try.prog 43 #[.slice ao l.length c] u fun e u' => e = .returned (.bool (V.okB l)) ∧ ∃ z, u' = u.drewN z := by
  have hl0 := h.len
  by_cases h64 : l.length ≤ 64
  · have HQ := hide h.lies
    have HF := hide h.fits
    have HL := hide h64
    clear h
    have HE : Hid (∀ i (hi : i < l.length), ¬ V.good l i hi → V.okB l = false) := fun i hi hg => V.not_ok_at hi hg
    have HT : Hid ((∀ i (hi : i < l.length), V.good l i hi) → V.okB l = true) := fun hg => V.okB_true.2 (V.ok_iff.2 ⟨unhide HL, hg⟩)
    generalize V.okB l = ok at *
    obtain ⟨n, hn⟩ : ∃ n, n = l.length := ⟨_, rfl⟩
    have HLN := hide hn
    rw [← hn] at hl0 h64 ⊢
    have h64i : (n : Int) ≤ 64 := by omega
    have h64j : ¬ (64 : Int) < (n : Int) := by omega
    clear hn hl0
    go_enter Try.func43, Try.ntmps43
    go_wp2
    go_loopw [3] (fun i wr => ∃ k : Nat, k ≤ n ∧ i = .int .i64 k ∧ Hid ((∃ z, wr = u.drewN z) ∧ ∀ j (hj : j < l.length), j < k → V.good l j hj)) (fun i _ => n - (intOf i).toNat)
    case atStart => exact ⟨0, Nat.zero_le _, rfl, ⟨0, rfl⟩, fun j _ hj => absurd hj (Nat.not_lt_zero _)⟩
    case round =>
      obtain ⟨k, hk, rfl, HI⟩ := hrel
      obtain ⟨z, hz⟩ := (unhide HI).1
      have HJ := hide (unhide HI).2
      clear HI
      subst hz
      by_cases hlt : k < n
      · have hki : (k : Int) < (n : Int) := by omega
        have hkl : k < l.length := by rw [← unhide HLN]; exact hlt
        obtain ⟨g, o, hao, c1, c2⟩ := (unhide HQ).dt hkl
        subst hao
        have hix := ixD g o n c k hlt
        have HG : Hid (V.good l k hkl ↔ 1 ≤ l[k].2 ∧ l[k].2 ≤ 1099511627776 ∧ (0 < k → l[k - 1].1 < l[k].1)) := Iff.rfl
        have HR : Hid (V.good l k hkl → ∀ j (hj : j < l.length), j < k + 1 → V.good l j hj) := fun hg j hj hjk => by
          rcases Nat.lt_succ_iff_lt_or_eq.1 hjk with h | rfl
          · exact unhide HJ j hj h
          · exact hg
        have HE1 := hide (unhide HE k hkl)
        generalize l[k] = q at *
        obtain ⟨qa, qc⟩ := q
        have c1 : u.cell? ⟨g, o + k * 2, none⟩ = some (.int .u32 (qa : Int)) := c1
        have c2 : u.cell? ⟨g, o + k * 2 + 1, none⟩ = some (.int .u64 (qc : Int)) := c2
        have HG2 : Hid (V.good l k hkl ↔ 1 ≤ qc ∧ qc ≤ 1099511627776 ∧ (0 < k → l[k - 1].1 < qa)) := HG
        clear HG HE HJ
        by_cases hc3 : qc < 1
        · have HB : Hid (ok = false) := unhide HE1 fun hg => by have := ((unhide HG2).1 hg).1; omega
          have d1 : decide ((qc : Int) < 1) = true := decide_eq_true (by omega)
          have d1' : (qc : Int) < 1 := by omega
          generalize o + k * 2 = oo at *
          go_wp2_with fail
          go_quiet (fail)
          go_wp2
          go_ret
          exact ⟨by rw [unhide HB]; rfl, z + nq, by simp [World.drewN_drewN]⟩
        · have d1 : decide ((qc : Int) < 1) = false := decide_eq_false (by omega)
          by_cases hc4 : 1099511627776 < qc
          · have HB : Hid (ok = false) := unhide HE1 fun hg => by have := ((unhide HG2).1 hg).2.1; omega
            have d2 : decide ((1099511627776 : Int) < (qc : Int)) = true := decide_eq_true (by omega)
            have d2' : (1099511627776 : Int) < (qc : Int) := by omega
            generalize o + k * 2 = oo at *
            clear hc3 hc4
            go_wp2_with fail
            go_quiet (fail)
            go_wp2
            go_ret
            exact ⟨by rw [unhide HB]; rfl, z + nq, by simp [World.drewN_drewN]⟩
          · have d2 : decide ((1099511627776 : Int) < (qc : Int)) = false := decide_eq_false (by omega)
            have HC1 : Hid (1 ≤ qc) := by show 1 ≤ qc; omega
            have HC2 : Hid (qc ≤ 1099511627776) := by show qc ≤ _; omega
            clear hc3 hc4
            by_cases hk0 : k = 0
            · have HK0 := hide hk0
              have HGk : Hid (V.good l k hkl) := (unhide HG2).2 ⟨unhide HC1, unhide HC2, fun h => by have := unhide HK0; omega⟩
              have hk2 : decide ((0 : Int) < (k : Int)) = false := decide_eq_false (by omega)
              have hk3 : decide (0 < k) = false := decide_eq_false (by omega)
              generalize o + k * 2 = oo at *
              clear hk0
              go_wp2_with fail
              go_quiet (fail)
              go_wp2
              go_roundw
              case rel => exact ⟨k + 1, by omega, by go_num, ⟨z + nq, rfl⟩, unhide HR (unhide HGk)⟩
              case measure => simp [intOf]; omega
            · obtain ⟨j, hj⟩ : ∃ j, k = j + 1 := ⟨k - 1, by omega⟩
              have hjl : j < l.length := by omega
              obtain ⟨g', o', hao', e1, e2⟩ := (unhide HQ).dt hjl
              cases hao'
              have hix2 := ixD g o n c j (by omega)
              have hw1 : IntKind.i64.wrap ((k : Int) - 1) = (j : Int) := by rw [IntKind.wrap_i64]; omega
              have hk1 : (0 : Int) < (k : Int) := by omega
              have hk2 : decide ((0 : Int) < (k : Int)) = true := decide_eq_true hk1
              have hk3 : decide (0 < k) = true := decide_eq_true (by omega)
              have HG3 : Hid (V.good l k hkl ↔ 1 ≤ qc ∧ qc ≤ 1099511627776 ∧ l[j].1 < qa) := by
                subst hj
                refine (unhide HG2).trans ⟨fun h => ⟨h.1, h.2.1, h.2.2 (Nat.succ_pos _)⟩, fun h => ⟨h.1, h.2.1, fun _ => h.2.2⟩⟩
              generalize l[j] = p at *
              obtain ⟨pa, pc⟩ := p
              have e1 : u.cell? ⟨g, o + j * 2, none⟩ = some (.int .u32 (pa : Int)) := e1
              have HJ := hide hj
              clear e2 hj
              generalize o + j * 2 = oj at *
              generalize o + k * 2 = oo at *
              by_cases hpa : pa < qa
              · have HGk : Hid (V.good l k hkl) := (unhide HG3).2 ⟨unhide HC1, unhide HC2, hpa⟩
                have hp2 : decide ((qa : Int) ≤ (pa : Int)) = false := decide_eq_false (by omega)
                have hp3 : decide (qa ≤ pa) = false := decide_eq_false (by omega)
                go_wp2_with fail
                go_quiet (fail)
                go_wp2
                go_roundw
                case rel => exact ⟨k + 1, by omega, by go_num, ⟨z + nq, rfl⟩, unhide HR (unhide HGk)⟩
                case measure => simp [intOf]; omega
              · have HB : Hid (ok = false) := unhide HE1 fun hg => hpa ((unhide HG3).1 hg).2.2
                have hp1 : (qa : Int) ≤ (pa : Int) := by omega
                have hp2 : decide ((qa : Int) ≤ (pa : Int)) = true := decide_eq_true hp1
                have hp3 : decide (qa ≤ pa) = true := decide_eq_true (by omega)
                go_wp2_with fail
                go_quiet (fail)
                go_wp2
                go_ret
                exact ⟨by rw [unhide HB]; rfl, z + nq, by simp [World.drewN_drewN]⟩
      · obtain rfl : k = n := by omega
        have hki : ¬ (k : Int) < (k : Int) := by omega
        have HB := hide (unhide HT fun i hi => unhide HJ i hi (by rw [unhide HLN]; exact hi))
        go_wp2
        go_ret
        exact ⟨by rw [unhide HB]; rfl, z, rfl⟩
  · have e : V.okB l = false := V.okB_false.2 fun ho => h64 ho.len
    rw [e]
    have hi : ¬ (l.length : Int) ≤ 64 := by omega
    have hi2 : (64 : Int) < (l.length : Int) := by omega
    go_enter Try.func43, Try.ntmps43
    go_wp2
    go_ret
    exact ⟨rfl, 0, rfl⟩
set_option maxRecDepth 100000 in
set_option maxHeartbeats 2000000 in
theorem rCount (l : List (Nat × Nat)) (ao : Option Addr) (c x : Nat) (u : World) (h : DAt u l ao) : Calls Try.prog 57 #[.slice ao l.length c, .int .u32 (x : Int)] u fun e u' => e = .returned (.int .u64 (V.cntV l x : Nat)) ∧ ∃ z, u' = u.drewN z := by
  have HV := hide (rValid l ao c u h)
  have HQ := hide h.lies
  cases hok : V.okB l with
  | false =>
    rw [show V.cntV l x = 0 by unfold V.cntV; rw [hok]; rfl]
    rw [hok] at HV
    go_enter Try.func57, Try.ntmps57
    go_wp2_with (first | (go_at_call 43; refine (unhide HV).mono ?_; rintro e w1 ⟨rfl, z, rfl⟩) | fail)
    go_ret
    exact ⟨rfl, z, rfl⟩
  | true =>
    have hl64 : l.length ≤ 64 := (V.okB_true.1 hok).len
    rw [show V.cntV l x = V.cnt l x by unfold V.cntV; rw [hok]; rfl]
    rw [hok] at HV
    have HA : Hid (∀ i (hi : i < l.length), (∀ j (hj : j < l.length), j < i → l[j].1 ≠ x) → l[i].1 = x → V.cnt l x = l[i].2) := fun i hi hn he => by
      rw [← he]; exact V.cnt_at hi fun j hj hji => by rw [he]; exact hn j hj hji
    have HZ : Hid ((∀ j (hj : j < l.length), l[j].1 ≠ x) → V.cnt l x = 0) := fun hn => V.cnt_none hn
    generalize V.cnt l x = r at *
    obtain ⟨n, hn⟩ : ∃ n, n = l.length := ⟨_, rfl⟩
    have HLN := hide hn
    rw [← hn] at hl64 HV ⊢
    have h64i : (n : Int) ≤ 64 := by omega
    clear hn h hok
    go_enter Try.func57, Try.ntmps57
    go_wp2_with (first | (go_at_call 43; refine (unhide HV).mono ?_; rintro e w1 ⟨rfl, z0, rfl⟩) | fail)
    go_loop [5] (fun i => ∃ k : Nat, k ≤ n ∧ i = .int .i64 k ∧ Hid (∀ j (hj : j < l.length), j < k → l[j].1 ≠ x)) (fun i => n - (intOf i).toNat)
    case atStart => exact ⟨0, Nat.zero_le _, rfl, fun j _ hj => absurd hj (Nat.not_lt_zero _)⟩
    case round =>
      obtain ⟨k, hk, rfl, HI⟩ := hrel
      by_cases hlt : k < n
      · have hki : (k : Int) < (n : Int) := by omega
        have hkl : k < l.length := by rw [← unhide HLN]; exact hlt
        obtain ⟨g, o, hao, c1, c2⟩ := (unhide HQ).dt hkl
        subst hao
        have hix := ixD g o n c k hlt
        have HR : Hid (l[k].1 ≠ x → ∀ j (hj : j < l.length), j < k + 1 → l[j].1 ≠ x) := fun hg j hj hjk => by
          rcases Nat.lt_succ_iff_lt_or_eq.1 hjk with h | rfl
          · exact unhide HI j hj h
          · exact hg
        have HA1 := hide (unhide HA k hkl (unhide HI))
        generalize l[k] = q at *
        obtain ⟨qa, qc⟩ := q
        have c1 : u.cell? ⟨g, o + k * 2, none⟩ = some (.int .u32 (qa : Int)) := c1
        have c2 : u.cell? ⟨g, o + k * 2 + 1, none⟩ = some (.int .u64 (qc : Int)) := c2
        clear HI HA
        generalize o + k * 2 = oo at *
        by_cases hax : qa = x
        · have HRV := hide (unhide HA1 hax)
          subst hax
          go_wp2
          go_ret
          exact ⟨by rw [unhide HRV]; rfl, z0, rfl⟩
        · have hxi : ¬ (qa : Int) = (x : Int) := by omega
          go_wp2
          go_round
          case rel => exact ⟨k + 1, by omega, by go_num, unhide HR hax⟩
          case measure => simp [intOf]; omega
      · obtain rfl : k = n := by omega
        have hki : ¬ (k : Int) < (k : Int) := by omega
        have HRV := hide (unhide HZ fun j hj => unhide HI j hj (by rw [unhide HLN]; exact hj))
        go_wp2
        go_ret
        exact ⟨by rw [unhide HRV]; rfl, z0, rfl⟩
end Go.Proofs.Ytbahfpcfjhifbaa
